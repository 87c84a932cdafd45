/- BaseB06: several of our texts in one: GtR GtC ApA ApP. -/
import Derived.Test.YtckfklpgnneodaaGreatBaseB05
import Derived.Test.YtckfklpgnneodaaGreatBaseB03
import Derived.Test.YtckfklpgnneodaaGreatSnH
import Derived.Test.YtckfklpgnneodaaGreatBaseB07
import Derived.Test.YtckfklpgnneodaaGreatBaseB01
import Derived.OrdersHeld
namespace Go.Proofs.YtckfklpgnneodaaGreat
open Go.RowKit
theorem infoGt : (Tryz.prog.info? 44).map (fun i => (i.zero, i.size, i.bytes)) = some (some (.agg #[.int .i64 0, .int .i64 0, .int .i64 0, .int .i64 0]), 4, 32) := by kernel_rfl
theorem blk_cells2 {g : Nat} {W : World} {t : TypeId} {z0 z1 : Value} (h : W.heap[g]? = some (.cells #[z0, z1] t (0, 0))) : W.cell? ⟨g, 0, none⟩ = some z0 ∧ W.cell? ⟨g, 1, none⟩ = some z1 := ⟨cell_at h 0 _ rfl, cell_at h 1 _ rfl⟩
theorem grown_blk {w w' : World} {row : Option Nat} {b : Nat} {o : Obj} (hg : w.grownBy w' row) (h : w.heap[b]? = some o) (hne : some b ≠ row) : w'.heap[b]? = some o := (hg.block b (lt_of_block h) hne).trans h
theorem row_set1 {w : World} {base : Nat} {e : TypeId} {size : Nat} {v : Value} {n g off : Nat} {xs : List Value} {u : Value} (h : w.ownsRow base e size v n xs) (hn : ∀ k, v.ownBlock = some k → k ≠ g) : (w.setCell ⟨g, off, none⟩ u).ownsRow base e size v n xs := by
  obtain ⟨h1, h2⟩ := h
  refine ⟨h1, ?_⟩
  rcases h2 with h2 | ⟨g', cap, cur, a, b, c, d⟩
  · exact .inl h2
  · exact .inr ⟨g', cap, cur, a, b, set1_blk (hn g' (by rw [a]; rfl)) c, d⟩
theorem sl_set1 {α : Type} {E : Enc α} {w : World} {B g off : Nat} {v : Value} {l : List α} {u : Value} (h : E.Sl w B v l) (hg : g < B) : E.Sl (w.setCell ⟨g, off, none⟩ u) B v l :=
  h.block fun k hk _ => Below.heap_setCell _ _ _ _ (by show k ≠ g; omega)
attribute [local irreducible] World.cell?
set_option maxRecDepth 100000 in
set_option maxHeartbeats 6400000 in
theorem rightO_any (B n m : Nat) (w : World) (hcur : CurAt w B) (hB : B < w.heap.size) (h1 : 1 ≤ n) (h4 : n ≤ 4) (hm : m ≤ 60) :
    Calls Tryz.prog 27 #[.pointer (some ⟨B, 0, none⟩), .int .i64 n, .int .i64 m] w fun e w' => (∃ v l, e = .returned (.agg #[.int .i64 n, v]) ∧ List.length l ≤ m ∧ (∀ g ∈ l, GtBd g) ∧ w'.ownsRow (w.heap.size + 2) 44 4 v l.length (gtE.flat l)) ∧ CurAt w' B ∧ Own B w w' := by
  obtain ⟨i0, hi, hz0, hz1, hz2⟩ := info_parts infoGt
  have HR := Lib.hid (alloc_blk (.cells #[.int .i64 (n : Int), .slice none 0 0] 26) (heap_alloc_new w (.cells #[.int .i64 0, .slice none 0 0] 26)))
  have HG := Lib.hid (show ((w.alloc (.cells #[.int .i64 0, .slice none 0 0] 26)).alloc (.cells #[.int .i64 (n : Int), .slice none 0 0] 26)).heap[w.heap.size + 1]? = some (.cells #[.int .i64 (n : Int), .slice none 0 0] 26 (0, 0)) by
    simpa using heap_alloc_new (w.alloc (.cells #[.int .i64 0, .slice none 0 0] 26)) (.cells #[.int .i64 (n : Int), .slice none 0 0] 26))
  have Hb0 := Lib.hid (show Below w.heap.size w ((w.alloc (.cells #[.int .i64 0, .slice none 0 0] 26)).alloc (.cells #[.int .i64 (n : Int), .slice none 0 0] 26)) by go_grown)
  have Hc0 := Lib.hid (hcur.below Hb0.out hB)
  have Ho0 := Lib.hid (show Own B w _ from own_of_below Hb0.out)
  have hRB : w.heap.size ≠ B := by omega
  have hGB : w.heap.size + 1 ≠ B := by omega
  clear hcur
  go_enter Tryz.func27, Tryz.ntmps27
  go_wp2_with fail
  refine (below_any B ((m : Int) + 1) _ Hc0.out (by omega) (by omega)).mono ?_
  rintro e w1 ⟨⟨x, x0, x1, rfl⟩, hc1, ho1⟩
  obtain ⟨x, rfl⟩ : ∃ q : Nat, x = q := ⟨x.toNat, by omega⟩
  have hs1 := ho1.size
  simp at hs1
  have Hc1 := Lib.hid hc1
  have HR1 := Lib.hid (own_blk ho1 hRB HR.out)
  have HG1 := Lib.hid (own_blk ho1 hGB HG.out)
  have Ho1 := Lib.hid (own_trans Ho0.out ho1)
  clear hc1 ho1 Hc0 Ho0 HR HG
  go_wp2_with fail
  go_loopg [9] x (fun m' i wr => ∃ (j : Nat) (l : List Gt) (ov : Value), m' = x - j ∧ j ≤ x ∧ i = .int .i64 j ∧ l.length = j ∧ Hid (∀ g ∈ l, GtBd g) ∧ Hid (wr.ownsRow (w.heap.size + 2) 44 4 ov j (gtE.flat l)) ∧ Hid (wr.heap[w.heap.size + 1]? = some (.cells #[.int .i64 (n : Int), ov] 26 (0, 0))) ∧ Hid (wr.heap[w.heap.size]? = some (.cells #[.int .i64 0, .slice none 0 0] 26 (0, 0))) ∧ Hid (CurAt wr B) ∧ Hid (Own B w wr) ∧ w.heap.size + 2 ≤ wr.heap.size)
  case atStart => exact ⟨0, [], .slice none 0 0, rfl, Nat.zero_le _, rfl, rfl, Lib.hid (fun g h => absurd h List.not_mem_nil), Lib.hid (World.ownsRow_nil _ _ _ _), HG1, HR1, Hc1, Ho1, by omega⟩
  case round =>
    obtain ⟨j, l, ov, rfl, hj, rfl, hl, Hbd, Hown, HGr, HRr, Hc, Ho, hsz⟩ := hrel
    by_cases hlt : j < x
    · obtain ⟨g0, g1⟩ := blk_cells2 HGr.out
      have fG := fun o => free_at HGr.out o
      have hGl := lt_of_block HGr.out
      go_upto_region 6 with fail
      have HGd := Lib.hid (show wr.drew.heap[w.heap.size + 1]? = some (.cells #[.int .i64 (n : Int), ov] 26 (0, 0)) from HGr.out)
      have HRd := Lib.hid (show wr.drew.heap[w.heap.size]? = some (.cells #[.int .i64 0, .slice none 0 0] 26 (0, 0)) from HRr.out)
      have Hod := Lib.hid Hown.out.drew
      have Hcd := Lib.hid (gate_any B n wr.drew Hc.out.drew (by show B < wr.heap.size; omega) h1 h4)
      go_region_law? (first
        | ((go_simp; go_at_call 47; (with_reducible refine (Hcd.out).mono ?_); rintro e w2 ⟨⟨g, rfl, hgb⟩, hc2, ho2⟩; have hG2 := own_blk ho2 hGB HGd.out; obtain ⟨p0, p1⟩ := blk_cells2 hG2; have fG2 := fun o => free_at hG2 o; have hGl2 := lt_of_block hG2; have Hown2 := Lib.hid (row_own Hod.out ho2 (by omega))))
        | ((refine step_append_lies _ (by rfl) _ _ _ (by rfl) (w.heap.size + 2) 44 i0 (.agg #[.int .i64 0, .int .i64 0, .int .i64 0, .int .i64 0]) 4 32 Tryz.underlying24 hi hz0 hz1 hz2 rfl (by decide) ov j (gtE.flat l) (by go_simp) (Hown2.out.alloc (.cells #[.int .i64 g.k, .int .i64 g.a, .int .i64 g.b, .int .i64 g.c] 44)) ⟨w2.heap.size, 0, none⟩ 1 1 (gtE.fl g) (by go_simp) rfl (Enc.new_row (E := gtE) w2 g _ rfl) (gtE.one g) (by decide) (by unfold maxLen; omega) (by omega) (by simp; omega) (w2.heap.size + 1) (by simp) ?_; intro gg cap w3 hown3 hgrow hat hlt3; have hG3 := grown_blk hgrow (alloc_blk (.cells #[.int .i64 g.k, .int .i64 g.a, .int .i64 g.b, .int .i64 g.c] 44) hG2) (fun e => by have := (Hown2.out.lt _ e.symm).1; omega); obtain ⟨q0, q1⟩ := blk_cells2 hG3; have fG3 := fun o => free_at hG3 o; have hGl3 := lt_of_block hG3)))
      all_goals
        have hs2 := ho2.size
        have hR2 := own_blk ho2 hRB HRd.out
        have HR3 := Lib.hid (grown_blk hgrow (alloc_blk (.cells #[.int .i64 g.k, .int .i64 g.a, .int .i64 g.b, .int .i64 g.c] 44) hR2) (fun e => by have := (Hown2.out.lt _ e.symm).1; omega))
        have hb3 : Below (w.heap.size + 2) w2 w3 := ((Below.refl (w.heap.size + 2) w2).alloc (by have : wr.drew.heap.size = wr.heap.size := rfl; omega) (.cells #[.int .i64 g.k, .int .i64 g.a, .int .i64 g.b, .int .i64 g.c] 44)).grown hgrow (by simp; have : wr.drew.heap.size = wr.heap.size := rfl; omega) (fun q hq => (Hown2.out.lt q hq).1)
        have Hbd3 := Lib.hid (show ∀ g' ∈ l ++ [g], GtBd g' from fun g' h => by
          rcases List.mem_append.1 h with h | h
          · exact Hbd.out g' h
          · obtain rfl := List.mem_singleton.1 h; exact hgb)
        rw [gtE.flat_snoc] at hown3
        have Hown3 := Lib.hid hown3
        have HG3 := Lib.hid (heap_set hG3 1 (.slice (some ⟨gg, 0, none⟩) (j + 1) cap))
        have HG3 := Lib.hid hG3
        go_wp2_with fail
        go_roundg (x - (j + 1))
        case measure => omega
        case rel =>
          refine ⟨j + 1, l ++ [g], _, rfl, by omega, by go_num, by simp [hl], Hbd3, ?_, heap_set HG3.out 1 (.slice (some ⟨gg, 0, none⟩) (j + 1) cap), ?_, ?_, ?_, ?_⟩
          · exact row_set1 Hown3.out fun k hk => by have := (Hown3.out.lt k hk).1; omega
          · exact set1_blk (by omega) HR3.out
          · exact Lib.hid ((hc2.below hb3 (by omega)).own (C := w.heap.size + 1) (own_set (own_refl (w.heap.size + 1) w3) 1 _) (by omega))
          · exact Lib.hid (own_dn (own_under (own_trans Ho.out (show Own B wr w2 from ⟨ho2.os, ho2.tape, ho2.output, ho2.size, ho2.block⟩)) hb3 (by omega)) 1 _ (by omega))
          · have h5 := hb3.size
            have h6 : wr.drew.heap.size = wr.heap.size := rfl
            simp [World.setCell]
            omega
    · obtain rfl : j = x := by omega
      obtain ⟨p, c, rfl⟩ : ∃ p c, ov = .slice p j c := by
        rcases Hown.out.2 with ⟨rfl, h⟩ | ⟨g, cap, cur, rfl, _⟩
        · exact ⟨none, 0, by rw [h]⟩
        · exact ⟨_, _, rfl⟩
      obtain ⟨g0, g1⟩ := blk_cells2 HGr.out
      obtain ⟨r0, r1⟩ := blk_cells2 HRr.out
      have fR := fun o => free_at HRr.out o
      have hGl := lt_of_block HGr.out
      have hRl := lt_of_block HRr.out
      have Hs := Lib.hid (row_set1 (g := w.heap.size) (off := 1) (u := .slice p j c) (row_set1 (g := w.heap.size) (off := 0) (u := .int .i64 (n : Int)) Hown.out fun k hk => by have := (Hown.out.lt k hk).1; omega) fun k hk => by have := (Hown.out.lt k hk).1; omega)
      go_wp2_with fail
      obtain ⟨k0', k1'⟩ := blk_cells2 (heap_set (heap_set HRr.out 0 (.int .i64 (n : Int))) 1 (.slice p j c))
      refine bodyPost_ret (v := .agg #[.int .i64 (n : Int), .slice p j c]) (by simp only [results, Tryz.results27]; simp [go_sem, k0', k1']) rfl ⟨⟨.slice p j c, l, rfl, by omega, Hbd.out, by rw [hl]; exact Hs.out⟩, ?_, ?_⟩
      · exact Hc.out.own (C := w.heap.size) (own_set (own_set (own_refl w.heap.size wr) 0 _) 1 _) hB
      · exact own_dn (own_dn Ho.out 0 _ (Nat.le_refl _)) 1 _ (Nat.le_refl _)
end Go.Proofs.YtckfklpgnneodaaGreat
namespace Go.Proofs.YtckfklpgnneodaaGreat
open Go.RowKit
/-- IsValidCircuit. -/
def ciB (n : Int) (l : List Gt) : Bool := l.all (fun g => gtB g n) && (decide (1 ≤ n ∧ n ≤ 4) && decide (l.length ≤ 60))
/-- A circuit's box and one of its gates. -/
def GS (w : World) (C g j : Nat) (n : Int) (v : Value) (x : Gt) (w' : World) : Prop :=
  w'.cell? ⟨C, 0, none⟩ = some (.int .i64 n) ∧ w'.cell? ⟨C, 1, none⟩ = some v ∧ w'.cell? ⟨g, j * 4, none⟩ = some (.int .i64 x.k) ∧ w'.cell? ⟨g, j * 4 + 1, none⟩ = some (.int .i64 x.a) ∧ w'.cell? ⟨g, j * 4 + 2, none⟩ = some (.int .i64 x.b) ∧ w'.cell? ⟨g, j * 4 + 3, none⟩ = some (.int .i64 x.c) ∧ C < w'.heap.size ∧ g < w'.heap.size ∧ Below w.heap.size w w'
theorem GS.drew {w w' : World} {C g j : Nat} {n : Int} {v : Value} {x : Gt} (h : GS w C g j n v x w') : GS w C g j n v x w'.drew :=
  let ⟨a0, a1, b0, b1, b2, b3, z, z', l⟩ := h; ⟨a0, a1, b0, b1, b2, b3, z, z', l.drew⟩
theorem GS.below {w w1 w2 : World} {C g j : Nat} {n : Int} {v : Value} {x : Gt} (h : GS w C g j n v x w1) (hb : Below w1.heap.size w1 w2) : GS w C g j n v x w2 :=
  let ⟨a0, a1, b0, b1, b2, b3, z, z', l⟩ := h
  ⟨cell_below a0 hb z, cell_below a1 hb z, cell_below b0 hb z', cell_below b1 hb z', cell_below b2 hb z', cell_below b3 hb z', Nat.lt_of_lt_of_le z hb.size, Nat.lt_of_lt_of_le z' hb.size, below_up l hb l.size⟩
theorem GRow.cells {w : World} {g : Nat} {l : List Gt} (h : gtE.Row w g l) {j : Nat} {x : Gt} (hx : l[j]? = some x) :
    w.cell? ⟨g, j * 4, none⟩ = some (.int .i64 x.k) ∧ w.cell? ⟨g, j * 4 + 1, none⟩ = some (.int .i64 x.a) ∧ w.cell? ⟨g, j * 4 + 2, none⟩ = some (.int .i64 x.b) ∧ w.cell? ⟨g, j * 4 + 3, none⟩ = some (.int .i64 x.c) :=
  ⟨h.at hx (k := 0) rfl, h.at hx (k := 1) rfl, h.at hx (k := 2) rfl, h.at hx (k := 3) rfl⟩
attribute [local irreducible] World.cell?
set_option maxRecDepth 100000 in
set_option maxHeartbeats 3200000 in
theorem svalidC (B : Nat) (n : Int) (v : Value) (l : List Gt) (w : World) (hv : gtE.Sl w B v l) (hm : l.length ≤ 1048576) :
    Calls Tryz.prog 8 #[.agg #[.int .i64 n, v]] w fun e w' => e = .returned (.bool (ciB n l)) ∧ Below w.heap.size w w' := by
  obtain ⟨a, cap, rfl, hcap, hr⟩ := hv
  have Hr := Lib.hid hr
  clear hr
  have HC0 := Lib.hid (heap_alloc_new w (.cells #[.int .i64 n, .slice a l.length cap] 26))
  have Hb0 := Lib.hid (show Below w.heap.size w (w.alloc (.cells #[.int .i64 n, .slice a l.length cap] 26)) by go_grown)
  obtain ⟨T, hT⟩ : ∃ T, T = ciB n l := ⟨_, rfl⟩
  rw [← hT]
  have HT := Lib.hid (hT.trans (show ciB n l = (l.all (fun g => gtB g n) && (decide (1 ≤ n ∧ n ≤ 4) && decide (l.length ≤ 60))) from rfl))
  clear hT
  go_enter Tryz.func8, Tryz.ntmps8
  go_wp2_with fail
  go_loopg [3] l.length (fun m i wr => ∃ j : Nat, m = l.length - j ∧ j ≤ l.length ∧ i = .int .i64 j ∧ Hid ((l.take j).all (fun g => gtB g n) = true) ∧ Hid (wr.heap[w.heap.size]? = some (.cells #[.int .i64 n, .slice a l.length cap] 26 (0, 0))) ∧ Hid (Below w.heap.size w wr))
  case atStart => exact ⟨0, rfl, Nat.zero_le _, rfl, rfl, HC0, Hb0⟩
  case round =>
    obtain ⟨j, rfl, hj, rfl, Hyes, HC, Hb⟩ := hrel
    obtain ⟨p0, p1⟩ := blk_cells2 HC.out
    have hCl := lt_of_block HC.out
    by_cases hlt : j < l.length
    · obtain ⟨g, rfl, _, hrow⟩ := Hr.out (by omega)
      obtain ⟨x, hx⟩ : ∃ x, l[j]? = some x := ⟨l[j], List.getElem?_eq_getElem hlt⟩
      have r1 := hrow.below Hb.out hrow.lt
      obtain ⟨c0, c1, c2, c3⟩ := GRow.cells r1 hx
      have hgl := r1.lt
      have Hv := Lib.hid (svalidG x n)
      have Hat := Lib.hid (all_take (p := fun g => gtB g n) hx Hyes.out)
      have Hno := Lib.hid (fun h => all_no (p := fun g => gtB g n) hx h)
      have hS : GS wr w.heap.size g j n (.slice (some ⟨g, 0, none⟩) l.length cap) x wr := ⟨p0, p1, c0, c1, c2, c3, hCl, hgl, Below.refl _ _⟩
      clear hrow r1 hx
      cases hok : gtB x n with
      | false =>
        rw [hok] at Hv Hno
        obtain rfl : T = false := HT.out.trans (by rw [Hno.out rfl]; rfl)
        clear hok
        go_upto_region 4 with fail
        go_region_held3 (fun w' => w'.cell? ⟨w.heap.size, 0, none⟩ = some (.int .i64 n) ∧ w'.cell? ⟨w.heap.size, 1, none⟩ = some (.slice (some ⟨g, 0, none⟩) l.length cap) ∧ w'.cell? ⟨g, j * 4, none⟩ = some (.int .i64 x.k) ∧ w'.cell? ⟨g, j * 4 + 1, none⟩ = some (.int .i64 x.a) ∧ w'.cell? ⟨g, j * 4 + 2, none⟩ = some (.int .i64 x.b) ∧ w'.cell? ⟨g, j * 4 + 3, none⟩ = some (.int .i64 x.c) ∧ w.heap.size < w'.heap.size ∧ g < w'.heap.size ∧ Below wr.heap.size wr w') (first | (show GS wr w.heap.size g j n (.slice (some ⟨g, 0, none⟩) l.length cap) x _; (with_reducible exact hS.drew)) | (show GS wr w.heap.size g j n (.slice (some ⟨g, 0, none⟩) l.length cap) x _; (with_reducible refine GS.below ?_ hbR); first | assumption | exact ⟨by assumption, by assumption, by assumption, by assumption, by assumption, by assumption, by assumption, by assumption, by assumption⟩))
          (first | (go_at_call 21; (with_reducible refine (Hv.out _).mono ?_); rintro e wR ⟨rfl, hbR⟩))
        have Hb2 := Lib.hid (below_up Hb.out.drew hbR Hb.out.size)
        go_wp2_with fail
        go_ret
        exact ⟨rfl, Hb2.out⟩
      | true =>
        rw [hok] at Hv Hat
        clear hok
        go_upto_region 4 with fail
        go_region_held3 (fun w' => w'.cell? ⟨w.heap.size, 0, none⟩ = some (.int .i64 n) ∧ w'.cell? ⟨w.heap.size, 1, none⟩ = some (.slice (some ⟨g, 0, none⟩) l.length cap) ∧ w'.cell? ⟨g, j * 4, none⟩ = some (.int .i64 x.k) ∧ w'.cell? ⟨g, j * 4 + 1, none⟩ = some (.int .i64 x.a) ∧ w'.cell? ⟨g, j * 4 + 2, none⟩ = some (.int .i64 x.b) ∧ w'.cell? ⟨g, j * 4 + 3, none⟩ = some (.int .i64 x.c) ∧ w.heap.size < w'.heap.size ∧ g < w'.heap.size ∧ Below wr.heap.size wr w') (first | (show GS wr w.heap.size g j n (.slice (some ⟨g, 0, none⟩) l.length cap) x _; (with_reducible exact hS.drew)) | (show GS wr w.heap.size g j n (.slice (some ⟨g, 0, none⟩) l.length cap) x _; (with_reducible refine GS.below ?_ hbR); first | assumption | exact ⟨by assumption, by assumption, by assumption, by assumption, by assumption, by assumption, by assumption, by assumption, by assumption⟩))
          (first | (go_at_call 21; (with_reducible refine (Hv.out _).mono ?_); rintro e wR ⟨rfl, hbR⟩))
        have Hb2 := Lib.hid (below_up Hb.out.drew hbR Hb.out.size)
        have HC2 := Lib.hid (below_blk hbR (by show w.heap.size < wr.heap.size; exact hCl) (show wr.drew.heap[w.heap.size]? = _ from HC.out))
        go_wp2_with fail
        go_roundg (l.length - (j + 1))
        case measure => omega
        case rel => exact ⟨j + 1, rfl, by omega, by go_num, Hat, HC2, Hb2⟩
    · obtain rfl : j = l.length := by omega
      have hall := Hyes.out
      rw [List.take_length] at hall
      have hT := HT.out
      rw [hall, Bool.true_and] at hT
      by_cases hn : 1 ≤ n ∧ n ≤ 4
      · have H := Lib.hid (fun W => lin_any n 1 4 true W (decide_eq_true hn))
        rw [decide_eq_true hn, Bool.true_and] at hT
        have HT2 := Lib.hid hT
        clear hT hall hn
        by_cases h60 : l.length ≤ 60
        · obtain rfl : T = true := HT2.out.trans (decide_eq_true h60)
          go_wp2_with fail
          refine (H.out _).mono ?_
          rintro e w5 ⟨rfl, rfl⟩
          go_wp2_with fail
          go_ret
          exact ⟨by simp; omega, Hb.out⟩
        · obtain rfl : T = false := HT2.out.trans (decide_eq_false h60)
          go_wp2_with fail
          refine (H.out _).mono ?_
          rintro e w5 ⟨rfl, rfl⟩
          go_wp2_with fail
          go_ret
          exact ⟨by simp; omega, Hb.out⟩
      · have H := Lib.hid (fun W => lin_any n 1 4 false W (decide_eq_false hn))
        rw [decide_eq_false hn, Bool.false_and] at hT
        subst hT
        clear hall hn
        go_wp2_with fail
        refine (H.out _).mono ?_
        rintro e w5 ⟨rfl, rfl⟩
        go_wp2_with fail
        go_ret
        exact ⟨rfl, Hb.out⟩
end Go.Proofs.YtckfklpgnneodaaGreat
namespace Go.Proofs.YtckfklpgnneodaaGreat
open Go.RowKit
/-- An amplitude sent to its places. -/
def sendO (x : Dw) : List (Nat × Dw) → List Dw → Option (List Dw)
  | [], o => some o
  | p :: r, o => if dMulB x p.2 && dAddB (o.getD p.1 .zero) (dMulV x p.2) then sendO x r (o.set p.1 (dAddV (o.getD p.1 .zero) (dMulV x p.2))) else none
/-- The amplitudes sent one by one. -/
def apO (G : Nat → List (Nat × Dw)) : Nat → List Dw → List Dw → Option (List Dw)
  | _, [], o => some o
  | i, x :: r, o => if x = .zero then apO G (i + 1) r o else match sendO x (G i) o with
    | some o' => apO G (i + 1) r o'
    | none => none
def goesG (g : Gt) (i : Nat) : List (Nat × Dw) := goesL g.k g.a.toNat g.b.toNat g.c.toNat i
def agO (g : Gt) (v : List Dw) : Option (List Dw) := if stB v && gtB g (qc v.length) then apO (goesG g) 0 v (List.replicate v.length .zero) else none
def agV (g : Gt) (v : List Dw) : List Dw := (agO g v).getD []
def agB (g : Gt) (v : List Dw) : Bool := (agO g v).isSome
/-- A gate's box. -/
def G1 (w : World) (b : Nat) (g : Gt) (w' : World) : Prop := w'.cell? ⟨b, 0, none⟩ = some (.int .i64 g.k) ∧ w'.cell? ⟨b, 1, none⟩ = some (.int .i64 g.a) ∧ w'.cell? ⟨b, 2, none⟩ = some (.int .i64 g.b) ∧ w'.cell? ⟨b, 3, none⟩ = some (.int .i64 g.c) ∧ b < w'.heap.size ∧ Below w.heap.size w w'
theorem G1.drew {w w' : World} {b : Nat} {g : Gt} (h : G1 w b g w') : G1 w b g w'.drew := let ⟨b0, b1, b2, b3, z, l⟩ := h; ⟨b0, b1, b2, b3, z, l.drew⟩
theorem G1.below {w w1 w2 : World} {b : Nat} {g : Gt} (h : G1 w b g w1) (hb : Below w1.heap.size w1 w2) : G1 w b g w2 :=
  let ⟨b0, b1, b2, b3, z, l⟩ := h; ⟨cell_below b0 hb z, cell_below b1 hb z, cell_below b2 hb z, cell_below b3 hb z, Nat.lt_of_lt_of_le z hb.size, below_up l hb l.size⟩
theorem G1.low {w w' : World} {b : Nat} {g : Gt} (h : G1 w b g w') : Below w.heap.size w w' := let ⟨_, _, _, _, _, l⟩ := h; l
attribute [local irreducible] World.cell?
set_option maxRecDepth 100000 in
set_option maxHeartbeats 3200000 in
theorem sapG_no0 (B : Nat) (g : Gt) (v : Value) (l : List Dw) (w : World) (hv : DSl w B v l) (hm : l.length ≤ 1048576) (hst : stB l = false) :
    Calls Tryz.prog 58 #[(.agg #[.int .i64 g.k, .int .i64 g.a, .int .i64 g.b, .int .i64 g.c]), v] w fun e w' => (∃ r, e = .returned (.tuple #[r, .bool false]) ∧ DSl w' w.heap.size r []) ∧ Below w.heap.size w w' := by
  have Hb0 := Lib.hid (show Below w.heap.size w (w.alloc (.cells #[.int .i64 g.k, .int .i64 g.a, .int .i64 g.b, .int .i64 g.c] 44)) by go_grown)
  have H1 := Lib.hid (svalidSt B v l (w.alloc (.cells #[.int .i64 g.k, .int .i64 g.a, .int .i64 g.b, .int .i64 g.c] 44)).drew ((hv.below ((Below.refl _ _).alloc (Nat.le_refl _) (.cells #[.int .i64 g.k, .int .i64 g.a, .int .i64 g.b, .int .i64 g.c] 44))).block fun _ _ _ => rfl) hm)
  obtain ⟨c0, c1, c2, c3⟩ := blk_cells (heap_alloc_new w (.cells #[.int .i64 g.k, .int .i64 g.a, .int .i64 g.b, .int .i64 g.c] 44))
  have hS : G1 (w.alloc (.cells #[.int .i64 g.k, .int .i64 g.a, .int .i64 g.b, .int .i64 g.c] 44)) w.heap.size g (w.alloc (.cells #[.int .i64 g.k, .int .i64 g.a, .int .i64 g.b, .int .i64 g.c] 44)) := ⟨c0, c1, c2, c3, by simp, Below.refl _ _⟩
  rw [hst] at H1
  clear hst hv
  go_enter Tryz.func58, Tryz.ntmps58
  go_upto_region 1 with fail
  refine wp_region_held_drew (S := (fun w' => w'.cell? ⟨w.heap.size, 0, none⟩ = some (.int .i64 g.k) ∧ w'.cell? ⟨w.heap.size, 1, none⟩ = some (.int .i64 g.a) ∧ w'.cell? ⟨w.heap.size, 2, none⟩ = some (.int .i64 g.b) ∧ w'.cell? ⟨w.heap.size, 3, none⟩ = some (.int .i64 g.c) ∧ w.heap.size < w'.heap.size ∧ Below (w.alloc (.cells #[.int .i64 g.k, .int .i64 g.a, .int .i64 g.b, .int .i64 g.c] 44)).heap.size (w.alloc (.cells #[.int .i64 g.k, .int .i64 g.a, .int .i64 g.b, .int .i64 g.c] 44)) w')) (by kernel_rfl) ?_ (fun hHeld => ?_)
  · exact hS.drew
  refine wpAnyH_take (i := 0) (oi := _) (v := ?_) op_at0 (by kernel_rfl) (by kernel_rfl) (by kernel_rfl) (fun _ _ _ h => h) (Or.inl ⟨by rfl, ?_⟩) (by assumption) ?_
  rotate_left
  · intro w hSw
    (try dsimp only at hSw)
    go_simp
    (try with_reducible rfl)
  (try simp only [Act.put, List.setIfInBounds_toArray, List.set_cons_zero, List.set_cons_succ])
  refine wpAnyH_ready (rs := [1]) (by kernel_rfl) (by simp) ?_
  refine AllReadyH.cons (o := _) op_at1 (fun K hK => ?_) ?_
  · go_simp
    refine (H1.out).mono ?_
    rintro e wR ⟨rfl, hbR⟩
    go_wp2_with fail
    refine hK.out _ _ ?_ (fun hHeld => ?_)
    · exact hS.drew.below hbR
    clear hK K
    (try simp only [Act.put, List.setIfInBounds_toArray, List.set_cons_zero, List.set_cons_succ])
    refine wpAnyH_take (i := 2) (oi := _) (v := ?_) op_at2 (by kernel_rfl) (by kernel_rfl) (by kernel_rfl) (fun _ _ _ h => h) (Or.inl ⟨by rfl, ?_⟩) (by assumption) ?_
    rotate_left
    · intro w hSw
      (try dsimp only at hSw)
      go_simp
      (try with_reducible rfl)
    (try simp only [Act.put, List.setIfInBounds_toArray, List.set_cons_zero, List.set_cons_succ])
    refine wpAnyH_take (i := 3) (oi := _) (v := ?_) op_at3 (by kernel_rfl) (by kernel_rfl) (by kernel_rfl) (fun _ _ _ h => h) (Or.inl ⟨by rfl, ?_⟩) (by assumption) ?_
    rotate_left
    · intro w hSw
      (try dsimp only at hSw)
      go_simp
      (try with_reducible rfl)
    (try simp only [Act.put, List.setIfInBounds_toArray, List.set_cons_zero, List.set_cons_succ])
    refine wpAnyH_take (i := 4) (oi := _) (v := undef) op_at4 (by kernel_rfl) (by kernel_rfl) (by kernel_rfl) (fun _ _ _ h => h) (Or.inr ⟨by rfl, rfl⟩) (by assumption) ?_
    (try simp only [Act.put, List.setIfInBounds_toArray, List.set_cons_zero, List.set_cons_succ])
    refine wpAnyH_take (i := 5) (oi := _) (v := undef) op_at5 (by kernel_rfl) (by kernel_rfl) (by kernel_rfl) (fun _ _ _ h => h) (Or.inr ⟨by rfl, rfl⟩) (by assumption) ?_
    (try simp only [Act.put, List.setIfInBounds_toArray, List.set_cons_zero, List.set_cons_succ])
    refine wpAnyH_take (i := 6) (oi := _) (v := undef) op_at6 (by kernel_rfl) (by kernel_rfl) (by kernel_rfl) (fun _ _ _ h => h) (Or.inr ⟨by rfl, rfl⟩) (by assumption) ?_
    (try simp only [Act.put, List.setIfInBounds_toArray, List.set_cons_zero, List.set_cons_succ])
    refine wpAnyH_take (i := 7) (oi := _) (v := undef) op_at7 (by kernel_rfl) (by kernel_rfl) (by kernel_rfl) (fun _ _ _ h => h) (Or.inr ⟨by rfl, rfl⟩) (by assumption) ?_
    (try simp only [Act.put, List.setIfInBounds_toArray, List.set_cons_zero, List.set_cons_succ])
    refine wpAnyH_take (i := 8) (oi := _) (v := undef) op_at8 (by kernel_rfl) (by kernel_rfl) (by kernel_rfl) (fun _ _ _ h => h) (Or.inr ⟨by rfl, rfl⟩) (by assumption) ?_
    (try simp only [Act.put, List.setIfInBounds_toArray, List.set_cons_zero, List.set_cons_succ])
    refine wpAnyH_take (i := 9) (oi := _) (v := ?_) op_at9 (by kernel_rfl) (by kernel_rfl) (by kernel_rfl) (fun _ _ _ h => h) (Or.inl ⟨by rfl, ?_⟩) (by assumption) ?_
    rotate_left
    · intro w hSw
      (try dsimp only at hSw)
      go_simp
      (try with_reducible rfl)
    (try simp only [Act.put, List.setIfInBounds_toArray, List.set_cons_zero, List.set_cons_succ])
    refine wpAnyH_done (by kernel_rfl) ?_ _
    have Hb1 := Lib.hid (below_nx Hb0.out.drew hbR)
    have hs1 := Hb1.out.size
    clear hbR
    go_wp2_with fail
    go_returns
    exact ⟨⟨_, rfl, DSl.nil⟩, by have := Hb1.out; go_grown⟩
  · exact AllReadyH.nil
end Go.Proofs.YtckfklpgnneodaaGreat
namespace Go.Proofs.YtckfklpgnneodaaGreat
open Go.RowKit
theorem sgoesG (g : Gt) (i : Nat) (w : World) (hk : 1 ≤ g.k ∧ g.k ≤ 12) (ha : 0 ≤ g.a ∧ g.a < 4) (hb : 0 ≤ g.b ∧ g.b < 4) (hc : 0 ≤ g.c ∧ g.c < 4) (hi : i < 16) :
    Calls Tryz.prog 75 #[(.agg #[.int .i64 g.k, .int .i64 g.a, .int .i64 g.b, .int .i64 g.c]), .int .i64 i] w fun e w' => ∃ v, e = .returned v ∧ sentE.Sl w' w.heap.size v (goesG g i) ∧ Below w.heap.size w w' := by
  obtain ⟨k, a, b, c⟩ := g
  obtain ⟨A, rfl⟩ := Int.eq_ofNat_of_zero_le ha.1
  obtain ⟨B, rfl⟩ := Int.eq_ofNat_of_zero_le hb.1
  obtain ⟨C, rfl⟩ := Int.eq_ofNat_of_zero_le hc.1
  exact sgoes k A B C i w hk.1 hk.2 (by have := ha.2; simp at this; omega) (by have := hb.2; simp at this; omega) (by have := hc.2; simp at this; omega) hi
theorem flip_in1 : ∀ i : Fin 2, ∀ q : Fin 1, flipN i.val q.val < 2 := by decide +kernel
theorem flip_in2 : ∀ i : Fin 4, ∀ q : Fin 2, flipN i.val q.val < 4 := by decide +kernel
theorem flip_in3 : ∀ i : Fin 8, ∀ q : Fin 3, flipN i.val q.val < 8 := by decide +kernel
theorem flip_in {n N i q : Nat} (hN : (n = 1 ∧ N = 2) ∨ (n = 2 ∧ N = 4) ∨ (n = 3 ∧ N = 8) ∨ (n = 4 ∧ N = 16)) (hi : i < N) (hq : q < n) : flipN i q < N := by
  rcases hN with ⟨rfl, rfl⟩ | ⟨rfl, rfl⟩ | ⟨rfl, rfl⟩ | ⟨rfl, rfl⟩
  · exact flip_in1 ⟨i, hi⟩ ⟨q, hq⟩
  · exact flip_in2 ⟨i, hi⟩ ⟨q, hq⟩
  · exact flip_in3 ⟨i, hi⟩ ⟨q, hq⟩
  · exact flip_lt ⟨i, hi⟩ ⟨q, hq⟩
theorem goes_in {n N : Nat} (hN : (n = 1 ∧ N = 2) ∨ (n = 2 ∧ N = 4) ∨ (n = 3 ∧ N = 8) ∨ (n = 4 ∧ N = 16)) {k : Int} {A B C i : Nat} (hA : A < n) (hB : B < n) (hC : C < n) (hi : i < N) : ∀ p ∈ goesL k A B C i, p.1 < N := by
  have fA := flip_in hN hi hA
  have fB := flip_in hN hi hB
  have fC := flip_in hN hi hC
  have fAB := flip_in hN fA hB
  have hl : lowN i A < N := by unfold lowN; split; exact fA; exact hi
  have fl' := flip_in hN hl hA
  have one : ∀ {a : Nat} {d : Dw} {p : Nat × Dw}, a < N → p ∈ [(a, d)] → p.1 < N := fun h hp => by rw [List.mem_singleton.1 hp]; exact h
  have ite : ∀ {a b : Nat} {t : Prop} [Decidable t], a < N → b < N → (if t then a else b) < N := fun ha hb => by split <;> assumption
  intro p hp
  unfold goesL at hp
  by_cases h1 : k = 1
  · rw [if_pos h1] at hp
    exact one (ite fA hi) hp
  rw [if_neg h1] at hp
  by_cases h2 : k = 2
  · rw [if_pos h2] at hp
    exact one (fA) hp
  rw [if_neg h2] at hp
  by_cases h3 : k = 3
  · rw [if_pos h3] at hp
    exact one (hi) hp
  rw [if_neg h3] at hp
  by_cases h5 : k = 5
  · rw [if_pos h5] at hp
    exact one (hi) hp
  rw [if_neg h5] at hp
  by_cases h6 : k = 6
  · rw [if_pos h6] at hp
    exact one (hi) hp
  rw [if_neg h6] at hp
  by_cases h7 : k = 7
  · rw [if_pos h7] at hp
    exact one (hi) hp
  rw [if_neg h7] at hp
  by_cases h8 : k = 8
  · rw [if_pos h8] at hp
    exact one (hi) hp
  rw [if_neg h8] at hp
  by_cases h9 : k = 9
  · rw [if_pos h9] at hp
    exact one (ite fB hi) hp
  rw [if_neg h9] at hp
  by_cases h10 : k = 10
  · rw [if_pos h10] at hp
    exact one (hi) hp
  rw [if_neg h10] at hp
  by_cases h12 : k = 12
  · rw [if_pos h12] at hp
    exact one (ite fC hi) hp
  rw [if_neg h12] at hp
  by_cases h11 : k = 11
  · rw [if_pos h11] at hp
    exact one (ite fAB hi) hp
  rw [if_neg h11] at hp
  rcases List.mem_cons.1 hp with rfl | hp
  · exact hl
  · exact one fl' hp
theorem goes_len {g : Gt} {i : Nat} : (goesG g i).length ≤ 2 := by
  unfold goesG goesL
  by_cases h1 : g.k = 1
  · rw [if_pos h1]; exact Nat.le_succ 1
  rw [if_neg h1]
  by_cases h2 : g.k = 2
  · rw [if_pos h2]; exact Nat.le_succ 1
  rw [if_neg h2]
  by_cases h3 : g.k = 3
  · rw [if_pos h3]; exact Nat.le_succ 1
  rw [if_neg h3]
  by_cases h5 : g.k = 5
  · rw [if_pos h5]; exact Nat.le_succ 1
  rw [if_neg h5]
  by_cases h6 : g.k = 6
  · rw [if_pos h6]; exact Nat.le_succ 1
  rw [if_neg h6]
  by_cases h7 : g.k = 7
  · rw [if_pos h7]; exact Nat.le_succ 1
  rw [if_neg h7]
  by_cases h8 : g.k = 8
  · rw [if_pos h8]; exact Nat.le_succ 1
  rw [if_neg h8]
  by_cases h9 : g.k = 9
  · rw [if_pos h9]; exact Nat.le_succ 1
  rw [if_neg h9]
  by_cases h10 : g.k = 10
  · rw [if_pos h10]; exact Nat.le_succ 1
  rw [if_neg h10]
  by_cases h12 : g.k = 12
  · rw [if_pos h12]; exact Nat.le_succ 1
  rw [if_neg h12]
  by_cases h11 : g.k = 11
  · rw [if_pos h11]; exact Nat.le_succ 1
  rw [if_neg h11]
  exact Nat.le_refl 2
theorem qc_pair {N : Nat} (h : 0 < qc N) : ((qc N).toNat = 1 ∧ N = 2) ∨ ((qc N).toNat = 2 ∧ N = 4) ∨ ((qc N).toNat = 3 ∧ N = 8) ∨ ((qc N).toNat = 4 ∧ N = 16) := by
  rcases qc_len h with rfl | rfl | rfl | rfl
  · exact .inl ⟨rfl, rfl⟩
  · exact .inr (.inl ⟨rfl, rfl⟩)
  · exact .inr (.inr (.inl ⟨rfl, rfl⟩))
  · exact .inr (.inr (.inr ⟨rfl, rfl⟩))
theorem goesG_in {g : Gt} {N i : Nat} (hg : gtB g (qc N) = true) (hi : i < N) : ∀ p ∈ goesG g i, p.1 < N := by
  obtain ⟨hn, _, ha, hb, hc⟩ := gtB_parts hg
  exact goes_in (qc_pair (by omega)) (by omega) (by omega) (by omega) hi
theorem send_step {x : Dw} {L : List (Nat × Dw)} {k : Nat} {p : Nat × Dw} {o : List Dw} (hp : L[k]? = some p) :
    sendO x (L.drop k) o = if dMulB x p.2 && dAddB (o.getD p.1 .zero) (dMulV x p.2) then sendO x (L.drop (k + 1)) (o.set p.1 (dAddV (o.getD p.1 .zero) (dMulV x p.2))) else none := by
  have hk : k < L.length := by
    rcases Nat.lt_or_ge k L.length with h' | h'
    · exact h'
    · rw [List.getElem?_eq_none h'] at hp; cases hp
  rw [List.getElem?_eq_getElem hk] at hp
  injection hp with hp
  rw [← List.getElem_cons_drop hk, hp]
  rfl
theorem ap_step {G : Nat → List (Nat × Dw)} {l o : List Dw} {i : Nat} {x : Dw} (hx : l[i]? = some x) :
    apO G i (l.drop i) o = if x = .zero then apO G (i + 1) (l.drop (i + 1)) o else match sendO x (G i) o with
      | some o' => apO G (i + 1) (l.drop (i + 1)) o'
      | none => none := by
  have hi : i < l.length := by
    rcases Nat.lt_or_ge i l.length with h' | h'
    · exact h'
    · rw [List.getElem?_eq_none h'] at hx; cases hx
  rw [List.getElem?_eq_getElem hi] at hx
  injection hx with hx
  rw [← List.getElem_cons_drop hi, hx]
  rfl
end Go.Proofs.YtckfklpgnneodaaGreat
