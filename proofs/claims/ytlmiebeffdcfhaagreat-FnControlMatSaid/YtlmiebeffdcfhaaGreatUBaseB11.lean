/- BaseB11: several of our texts in one: GtS GtC GtKa. -/
import Derived.Test.YtlmiebeffdcfhaaGreatUGtB
import Derived.Test.YtlmiebeffdcfhaaGreatUBaseB10
import Derived.Test.YtlmiebeffdcfhaaGreatUBaseB18
import Derived.Test.YtlmiebeffdcfhaaGreatUBaseB22
namespace Go.Proofs.YtlmiebeffdcfhaaGreat
open Go.RowKit
attribute [local irreducible] World.cell?
end Go.Proofs.YtlmiebeffdcfhaaGreat
namespace Go.Proofs.YtlmiebeffdcfhaaGreat
open Go.RowKit
/-- IsValidCircuit. -/
def ciB (n : Int) (l : List Gt) : Bool := l.all (fun g => gtB g n) && (decide (1 ≤ n ∧ n ≤ 4) && decide (l.length ≤ 60))
/-- A circuit's box and one of its gates. -/
def GS (w : World) (C g j : Nat) (n : Int) (v : Value) (x : Gt) (w' : World) : Prop :=
  w'.cell? ⟨C, 0, none⟩ = some (.int .i64 n) ∧ w'.cell? ⟨C, 1, none⟩ = some v ∧ w'.cell? ⟨g, j * 4, none⟩ = some (.int .i64 x.k) ∧ w'.cell? ⟨g, j * 4 + 1, none⟩ = some (.int .i64 x.a) ∧ w'.cell? ⟨g, j * 4 + 2, none⟩ = some (.int .i64 x.b) ∧ w'.cell? ⟨g, j * 4 + 3, none⟩ = some (.int .i64 x.c) ∧ C < w'.heap.size ∧ g < w'.heap.size ∧ Below w.heap.size w w'
theorem GS.drew {w w' : World} {C g j : Nat} {n : Int} {v : Value} {x : Gt} (h : GS w C g j n v x w') : GS w C g j n v x w'.drew :=
  let ⟨a0, a1, b0, b1, b2, b3, z, z', l⟩ := h; ⟨a0, a1, b0, b1, b2, b3, z, z', l.drew⟩
theorem GS.below {w w1 w2 : World} {C g j : Nat} {n : Int} {v : Value} {x : Gt} (h : GS w C g j n v x w1) (hb : Below w1.heap.size w1 w2) : GS w C g j n v x w2 :=
  let ⟨a0, a1, b0, b1, b2, b3, z, z', l⟩ := h
  ⟨cell_below a0 hb z, cell_below a1 hb z, cell_below b0 hb z', cell_below b1 hb z', cell_below b2 hb z', cell_below b3 hb z', Nat.lt_of_lt_of_le z hb.size, Nat.lt_of_lt_of_le z' hb.size, below_up l hb l.size⟩
theorem GRow.cells {w : World} {g : Nat} {l : List Gt} (h : gtE.Row w g l) {j : Nat} {x : Gt} (hx : l[j]? = some x) :
    w.cell? ⟨g, j * 4, none⟩ = some (.int .i64 x.k) ∧ w.cell? ⟨g, j * 4 + 1, none⟩ = some (.int .i64 x.a) ∧ w.cell? ⟨g, j * 4 + 2, none⟩ = some (.int .i64 x.b) ∧ w.cell? ⟨g, j * 4 + 3, none⟩ = some (.int .i64 x.c) :=
  ⟨h.at hx (k := 0) rfl, h.at hx (k := 1) rfl, h.at hx (k := 2) rfl, h.at hx (k := 3) rfl⟩
attribute [local irreducible] World.cell?
set_option maxRecDepth 100000 in
set_option maxHeartbeats 3200000 in
theorem svalidC (B : Nat) (n : Int) (v : Value) (l : List Gt) (w : World) (hv : gtE.Sl w B v l) (hm : l.length ≤ 1048576) :
    Calls Tryz.prog 49 #[.agg #[.int .i64 n, v]] w fun e w' => e = .returned (.bool (ciB n l)) ∧ Below w.heap.size w w' := by
  obtain ⟨a, cap, rfl, hcap, hr⟩ := hv
  have Hr := Lib.hid hr
  clear hr
  have HC0 := Lib.hid (heap_alloc_new w (.cells #[.int .i64 n, .slice a l.length cap] 38))
  have Hb0 := Lib.hid (show Below w.heap.size w (w.alloc (.cells #[.int .i64 n, .slice a l.length cap] 38)) by go_grown)
  obtain ⟨T, hT⟩ : ∃ T, T = ciB n l := ⟨_, rfl⟩
  rw [← hT]
  have HT := Lib.hid (hT.trans (show ciB n l = (l.all (fun g => gtB g n) && (decide (1 ≤ n ∧ n ≤ 4) && decide (l.length ≤ 60))) from rfl))
  clear hT
  go_enter Tryz.func49, Tryz.ntmps49
  go_wp2_with fail
  go_loopg [3] l.length (fun m i wr => ∃ j : Nat, m = l.length - j ∧ j ≤ l.length ∧ i = .int .i64 j ∧ Hid ((l.take j).all (fun g => gtB g n) = true) ∧ Hid (wr.heap[w.heap.size]? = some (.cells #[.int .i64 n, .slice a l.length cap] 38 (0, 0))) ∧ Hid (Below w.heap.size w wr))
  case atStart => exact ⟨0, rfl, Nat.zero_le _, rfl, rfl, HC0, Hb0⟩
  case round =>
    obtain ⟨j, rfl, hj, rfl, Hyes, HC, Hb⟩ := hrel
    obtain ⟨p0, p1⟩ := blk_cells2 HC.out
    have hCl := lt_of_block HC.out
    by_cases hlt : j < l.length
    · obtain ⟨g, rfl, _, hrow⟩ := Hr.out (by omega)
      obtain ⟨x, hx⟩ : ∃ x, l[j]? = some x := ⟨l[j], List.getElem?_eq_getElem hlt⟩
      have r1 := hrow.below Hb.out hrow.lt
      obtain ⟨c0, c1, c2, c3⟩ := GRow.cells r1 hx
      have hgl := r1.lt
      have Hv := Lib.hid (svalidG x n)
      have Hat := Lib.hid (all_take (p := fun g => gtB g n) hx Hyes.out)
      have Hno := Lib.hid (fun h => all_no (p := fun g => gtB g n) hx h)
      have hS : GS wr w.heap.size g j n (.slice (some ⟨g, 0, none⟩) l.length cap) x wr := ⟨p0, p1, c0, c1, c2, c3, hCl, hgl, Below.refl _ _⟩
      clear hrow r1 hx
      cases hok : gtB x n with
      | false =>
        rw [hok] at Hv Hno
        obtain rfl : T = false := HT.out.trans (by rw [Hno.out rfl]; rfl)
        clear hok
        go_upto_region 4 with fail
        go_region_held3 (fun w' => w'.cell? ⟨w.heap.size, 0, none⟩ = some (.int .i64 n) ∧ w'.cell? ⟨w.heap.size, 1, none⟩ = some (.slice (some ⟨g, 0, none⟩) l.length cap) ∧ w'.cell? ⟨g, j * 4, none⟩ = some (.int .i64 x.k) ∧ w'.cell? ⟨g, j * 4 + 1, none⟩ = some (.int .i64 x.a) ∧ w'.cell? ⟨g, j * 4 + 2, none⟩ = some (.int .i64 x.b) ∧ w'.cell? ⟨g, j * 4 + 3, none⟩ = some (.int .i64 x.c) ∧ w.heap.size < w'.heap.size ∧ g < w'.heap.size ∧ Below wr.heap.size wr w') (first | (show GS wr w.heap.size g j n (.slice (some ⟨g, 0, none⟩) l.length cap) x _; (with_reducible exact hS.drew)) | (show GS wr w.heap.size g j n (.slice (some ⟨g, 0, none⟩) l.length cap) x _; (with_reducible refine GS.below ?_ hbR); first | assumption | exact ⟨by assumption, by assumption, by assumption, by assumption, by assumption, by assumption, by assumption, by assumption, by assumption⟩))
          (first | (go_at_call 30; (with_reducible refine (Hv.out _).mono ?_); rintro e wR ⟨rfl, hbR⟩))
        have Hb2 := Lib.hid (below_up Hb.out.drew hbR Hb.out.size)
        go_wp2_with fail
        go_ret
        exact ⟨rfl, Hb2.out⟩
      | true =>
        rw [hok] at Hv Hat
        clear hok
        go_upto_region 4 with fail
        go_region_held3 (fun w' => w'.cell? ⟨w.heap.size, 0, none⟩ = some (.int .i64 n) ∧ w'.cell? ⟨w.heap.size, 1, none⟩ = some (.slice (some ⟨g, 0, none⟩) l.length cap) ∧ w'.cell? ⟨g, j * 4, none⟩ = some (.int .i64 x.k) ∧ w'.cell? ⟨g, j * 4 + 1, none⟩ = some (.int .i64 x.a) ∧ w'.cell? ⟨g, j * 4 + 2, none⟩ = some (.int .i64 x.b) ∧ w'.cell? ⟨g, j * 4 + 3, none⟩ = some (.int .i64 x.c) ∧ w.heap.size < w'.heap.size ∧ g < w'.heap.size ∧ Below wr.heap.size wr w') (first | (show GS wr w.heap.size g j n (.slice (some ⟨g, 0, none⟩) l.length cap) x _; (with_reducible exact hS.drew)) | (show GS wr w.heap.size g j n (.slice (some ⟨g, 0, none⟩) l.length cap) x _; (with_reducible refine GS.below ?_ hbR); first | assumption | exact ⟨by assumption, by assumption, by assumption, by assumption, by assumption, by assumption, by assumption, by assumption, by assumption⟩))
          (first | (go_at_call 30; (with_reducible refine (Hv.out _).mono ?_); rintro e wR ⟨rfl, hbR⟩))
        have Hb2 := Lib.hid (below_up Hb.out.drew hbR Hb.out.size)
        have HC2 := Lib.hid (below_blk hbR (by show w.heap.size < wr.heap.size; exact hCl) (show wr.drew.heap[w.heap.size]? = _ from HC.out))
        go_wp2_with fail
        go_roundg (l.length - (j + 1))
        case measure => omega
        case rel => exact ⟨j + 1, rfl, by omega, by go_num, Hat, HC2, Hb2⟩
    · obtain rfl : j = l.length := by omega
      have hall := Hyes.out
      rw [List.take_length] at hall
      have hT := HT.out
      rw [hall, Bool.true_and] at hT
      by_cases hn : 1 ≤ n ∧ n ≤ 4
      · have H := Lib.hid (fun W => lin_any n 1 4 true W (decide_eq_true hn))
        rw [decide_eq_true hn, Bool.true_and] at hT
        have HT2 := Lib.hid hT
        clear hT hall hn
        by_cases h60 : l.length ≤ 60
        · obtain rfl : T = true := HT2.out.trans (decide_eq_true h60)
          go_wp2_with fail
          refine (H.out _).mono ?_
          rintro e w5 ⟨rfl, rfl⟩
          go_wp2_with fail
          go_ret
          exact ⟨by simp; omega, Hb.out⟩
        · obtain rfl : T = false := HT2.out.trans (decide_eq_false h60)
          go_wp2_with fail
          refine (H.out _).mono ?_
          rintro e w5 ⟨rfl, rfl⟩
          go_wp2_with fail
          go_ret
          exact ⟨by simp; omega, Hb.out⟩
      · have H := Lib.hid (fun W => lin_any n 1 4 false W (decide_eq_false hn))
        rw [decide_eq_false hn, Bool.false_and] at hT
        subst hT
        clear hall hn
        go_wp2_with fail
        refine (H.out _).mono ?_
        rintro e w5 ⟨rfl, rfl⟩
        go_wp2_with fail
        go_ret
        exact ⟨rfl, Hb.out⟩
end Go.Proofs.YtlmiebeffdcfhaaGreat
namespace Go.Proofs.YtlmiebeffdcfhaaGreat
open Go.RowKit
attribute [local irreducible] World.cell?
end Go.Proofs.YtlmiebeffdcfhaaGreat
