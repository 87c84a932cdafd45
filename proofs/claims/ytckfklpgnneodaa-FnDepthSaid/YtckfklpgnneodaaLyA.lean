/- The model's l13Meets and l13Any: whether gates share a qubit. -/
import Derived.Test.YtckfklpgnneodaaLyP
import Derived.Test.YtckfklpgnneodaaBaseB11
import Derived.Test.YtckfklpgnneodaaGtC
namespace Go.Proofs.Ytckfklpgnneodaa
open Go.RowKit
theorem mtG_all (g h : Gt) : mtG g h = !((gqs g).all fun q => !decide (q ∈ gqs h)) := by
  unfold mtG
  rw [Bool.eq_iff_iff]
  simp
theorem anyG_all (L : List Gt) (h : Gt) : anyG L h = !(L.all fun g => !mtG g h) := by
  unfold anyG
  rw [Bool.eq_iff_iff]
  simp
def HGq (w : World) (b : Nat) (y : Gt) (gl j : Nat) (q : Int) (w' : World) : Prop := w'.cell? ⟨b, 0, none⟩ = some (.int .i64 y.k) ∧ w'.cell? ⟨b, 1, none⟩ = some (.int .i64 y.a) ∧ w'.cell? ⟨b, 2, none⟩ = some (.int .i64 y.b) ∧ w'.cell? ⟨b, 3, none⟩ = some (.int .i64 y.c) ∧ w'.cell? ⟨gl, j, none⟩ = some (.int .i64 q) ∧ b < w'.heap.size ∧ gl < w'.heap.size ∧ Below w.heap.size w w'
theorem HGq.drew {w w1 : World} {b : Nat} {y : Gt} {gl j : Nat} {q : Int} (h : HGq w b y gl j q w1) : HGq w b y gl j q w1.drew :=
  let ⟨c0, c1, c2, c3, c4, z0, z1, l⟩ := h; ⟨c0, c1, c2, c3, c4, z0, z1, l.drew⟩
theorem HGq.below {w w1 w2 : World} {b : Nat} {y : Gt} {gl j : Nat} {q : Int} (h : HGq w b y gl j q w1) (hb : Below w1.heap.size w1 w2) : HGq w b y gl j q w2 :=
  let ⟨c0, c1, c2, c3, c4, z0, z1, l⟩ := h
  ⟨cell_below c0 hb z0, cell_below c1 hb z0, cell_below c2 hb z0, cell_below c3 hb z0, cell_below c4 hb z1, Nat.lt_of_lt_of_le z0 hb.size, Nat.lt_of_lt_of_le z1 hb.size, below_up l hb l.size⟩
theorem HGq.low {w w1 : World} {b : Nat} {y : Gt} {gl j : Nat} {q : Int} (h : HGq w b y gl j q w1) : Below w.heap.size w w1 := let ⟨_, _, _, _, _, _, _, l⟩ := h; l
def HGx (w : World) (b : Nat) (y : Gt) (gl o : Nat) (x : Gt) (w' : World) : Prop := w'.cell? ⟨b, 0, none⟩ = some (.int .i64 y.k) ∧ w'.cell? ⟨b, 1, none⟩ = some (.int .i64 y.a) ∧ w'.cell? ⟨b, 2, none⟩ = some (.int .i64 y.b) ∧ w'.cell? ⟨b, 3, none⟩ = some (.int .i64 y.c) ∧ w'.cell? ⟨gl, o, none⟩ = some (.int .i64 x.k) ∧ w'.cell? ⟨gl, o + 1, none⟩ = some (.int .i64 x.a) ∧ w'.cell? ⟨gl, o + 2, none⟩ = some (.int .i64 x.b) ∧ w'.cell? ⟨gl, o + 3, none⟩ = some (.int .i64 x.c) ∧ b < w'.heap.size ∧ gl < w'.heap.size ∧ Below w.heap.size w w'
theorem HGx.drew {w w1 : World} {b : Nat} {y : Gt} {gl o : Nat} {x : Gt} (h : HGx w b y gl o x w1) : HGx w b y gl o x w1.drew :=
  let ⟨c0, c1, c2, c3, c4, c5, c6, c7, z0, z1, l⟩ := h; ⟨c0, c1, c2, c3, c4, c5, c6, c7, z0, z1, l.drew⟩
theorem HGx.below {w w1 w2 : World} {b : Nat} {y : Gt} {gl o : Nat} {x : Gt} (h : HGx w b y gl o x w1) (hb : Below w1.heap.size w1 w2) : HGx w b y gl o x w2 :=
  let ⟨c0, c1, c2, c3, c4, c5, c6, c7, z0, z1, l⟩ := h
  ⟨cell_below c0 hb z0, cell_below c1 hb z0, cell_below c2 hb z0, cell_below c3 hb z0, cell_below c4 hb z1, cell_below c5 hb z1, cell_below c6 hb z1, cell_below c7 hb z1, Nat.lt_of_lt_of_le z0 hb.size, Nat.lt_of_lt_of_le z1 hb.size, below_up l hb l.size⟩
theorem HGx.low {w w1 : World} {b : Nat} {y : Gt} {gl o : Nat} {x : Gt} (h : HGx w b y gl o x w1) : Below w.heap.size w w1 := let ⟨_, _, _, _, _, _, _, _, _, _, l⟩ := h; l
attribute [local irreducible] World.cell?
set_option maxRecDepth 100000 in
set_option maxHeartbeats 3200000 in
theorem smeets (g h : Gt) (w : World) : Calls Try.prog 67 #[(.agg #[.int .i64 g.k, .int .i64 g.a, .int .i64 g.b, .int .i64 g.c]), (.agg #[.int .i64 h.k, .int .i64 h.a, .int .i64 h.b, .int .i64 h.c])] w fun e w' => e = .returned (.bool (mtG g h)) ∧ Below w.heap.size w w' := by
  have Hb0 := Lib.hid (show Below w.heap.size w ((w.alloc (.cells #[.int .i64 g.k, .int .i64 g.a, .int .i64 g.b, .int .i64 g.c] 59)).alloc (.cells #[.int .i64 h.k, .int .i64 h.a, .int .i64 h.b, .int .i64 h.c] 59)) by go_grown)
  have HG := Lib.hid (alloc_blk (.cells #[.int .i64 h.k, .int .i64 h.a, .int .i64 h.b, .int .i64 h.c] 59) (heap_alloc_new w (.cells #[.int .i64 g.k, .int .i64 g.a, .int .i64 g.b, .int .i64 g.c] 59)))
  have HX := Lib.hid (show ((w.alloc (.cells #[.int .i64 g.k, .int .i64 g.a, .int .i64 g.b, .int .i64 g.c] 59)).alloc (.cells #[.int .i64 h.k, .int .i64 h.a, .int .i64 h.b, .int .i64 h.c] 59)).heap[w.heap.size + 1]? = some (.cells #[.int .i64 h.k, .int .i64 h.a, .int .i64 h.b, .int .i64 h.c] 59 (0, 0)) from by simpa using heap_alloc_new (w.alloc (.cells #[.int .i64 g.k, .int .i64 g.a, .int .i64 g.b, .int .i64 g.c] 59)) (.cells #[.int .i64 h.k, .int .i64 h.a, .int .i64 h.b, .int .i64 h.c] 59))
  have Hq := Lib.hid (fun W => sgqs g W)
  have Ha := Lib.hid (fun q W => sacts h q W)
  have hql := gqs_len g
  have h3 := ar_le g.k
  have HT := Lib.hid (mtG_all g h)
  obtain ⟨T, hT⟩ : ∃ T, T = mtG g h := ⟨_, rfl⟩
  rw [← hT] at HT ⊢
  clear hT
  obtain ⟨a0, a1, a2, a3⟩ := blk_cells HG.out
  have hgl := lt_of_block HG.out
  go_enter Try.func67, Try.ntmps67
  go_wp2_with fail
  refine (Hq.out _).mono ?_
  rintro e w1 ⟨v, rfl, hd1, hb1⟩
  have HX1 := Lib.hid (below_blk hb1 (lt_of_block HX.out) HX.out)
  have Hd1 := Lib.hid hd1
  have Hb1 := Lib.hid (below_nx Hb0.out hb1)
  clear hb1 a0 a1 a2 a3 hgl
  obtain ⟨al, cl, rfl, -, hr⟩ := hd1
  have Hr := Lib.hid hr
  clear hr
  have hqm : (gqs g).length ≤ 3 := by omega
  have hlen : (gqs g).length ≤ 1048576 := by omega
  generalize gqs g = L at *
  go_wp2_with fail
  go_loopg [6] L.length (fun m i wr => ∃ j : Nat, m = L.length - j ∧ j ≤ L.length ∧ i = .int .i64 j ∧ Hid ((L.take j).all (fun q => !decide (q ∈ gqs h)) = true) ∧ Hid (wr.heap[w.heap.size + 1]? = some (.cells #[.int .i64 h.k, .int .i64 h.a, .int .i64 h.b, .int .i64 h.c] 59 (0, 0))) ∧ Hid (Below w1.heap.size w1 wr))
  case atStart => exact ⟨0, rfl, Nat.zero_le _, rfl, rfl, HX1, Below.refl _ _⟩
  case round =>
    obtain ⟨j, rfl, hj, rfl, Hyes, HC, Hb⟩ := hrel
    obtain ⟨p0, p1, p2, p3⟩ := blk_cells HC.out
    have hCl := lt_of_block HC.out
    by_cases hlt : j < L.length
    · obtain ⟨gl, rfl, _, hrow⟩ := Hr.out (by omega)
      obtain ⟨q, hx⟩ : ∃ q, L[j]? = some q := ⟨L[j], List.getElem?_eq_getElem hlt⟩
      have r1 := hrow.below Hb.out hrow.lt
      have c0 := IRow.cell r1 hx
      have hgl := r1.lt
      have Hv := Lib.hid (Ha.out q)
      have Hat := Lib.hid (all_take (p := fun q => !decide (q ∈ gqs h)) hx Hyes.out)
      have Hno := Lib.hid (fun k => all_no (p := fun q => !decide (q ∈ gqs h)) hx k)
      have hS : HGq wr (w.heap.size + 1) h gl j q wr := ⟨p0, p1, p2, p3, c0, hCl, hgl, Below.refl _ _⟩
      clear hrow r1 hx
      cases hok : decide (q ∈ gqs h) with
      | true =>
        rw [hok] at Hv
        have hT := HT.out
        rw [Hno.out (by simp only [hok]; rfl)] at hT
        obtain rfl : T = true := hT
        clear hok
        go_upto_region 5 with fail
        go_region_held3 (fun w' => w'.cell? ⟨(w.heap.size + 1), 0, none⟩ = some (.int .i64 h.k) ∧ w'.cell? ⟨(w.heap.size + 1), 1, none⟩ = some (.int .i64 h.a) ∧ w'.cell? ⟨(w.heap.size + 1), 2, none⟩ = some (.int .i64 h.b) ∧ w'.cell? ⟨(w.heap.size + 1), 3, none⟩ = some (.int .i64 h.c) ∧ w'.cell? ⟨gl, j, none⟩ = some (.int .i64 q) ∧ (w.heap.size + 1) < w'.heap.size ∧ gl < w'.heap.size ∧ Below wr.heap.size wr w') (first | (show HGq wr (w.heap.size + 1) h gl j q _; (with_reducible exact hS.drew)) | (show HGq wr (w.heap.size + 1) h gl j q _; exact hS.drew.below hbR) | (show HGq wr (w.heap.size + 1) h gl j q _; (with_reducible refine HGq.below ?_ hbR); first | assumption | exact ⟨by assumption, by assumption, by assumption, by assumption, by assumption, by assumption, by assumption, by assumption⟩))
          (first | (go_at_call 75; (with_reducible refine (Hv.out _).mono ?_); rintro e wR ⟨rfl, hbR⟩))
        have Hb2 := Lib.hid (below_up (below_up Hb1.out Hb.out Hb1.out.size).drew hbR (Nat.le_trans Hb1.out.size Hb.out.size))
        go_wp2_with fail
        go_ret
        exact ⟨rfl, Hb2.out⟩
      | false =>
        rw [hok] at Hv
        have Hat2 := Lib.hid (Hat.out.trans (by simp only [hok]; rfl))
        clear hok Hat
        go_upto_region 5 with fail
        go_region_held3 (fun w' => w'.cell? ⟨(w.heap.size + 1), 0, none⟩ = some (.int .i64 h.k) ∧ w'.cell? ⟨(w.heap.size + 1), 1, none⟩ = some (.int .i64 h.a) ∧ w'.cell? ⟨(w.heap.size + 1), 2, none⟩ = some (.int .i64 h.b) ∧ w'.cell? ⟨(w.heap.size + 1), 3, none⟩ = some (.int .i64 h.c) ∧ w'.cell? ⟨gl, j, none⟩ = some (.int .i64 q) ∧ (w.heap.size + 1) < w'.heap.size ∧ gl < w'.heap.size ∧ Below wr.heap.size wr w') (first | (show HGq wr (w.heap.size + 1) h gl j q _; (with_reducible exact hS.drew)) | (show HGq wr (w.heap.size + 1) h gl j q _; exact hS.drew.below hbR) | (show HGq wr (w.heap.size + 1) h gl j q _; (with_reducible refine HGq.below ?_ hbR); first | assumption | exact ⟨by assumption, by assumption, by assumption, by assumption, by assumption, by assumption, by assumption, by assumption⟩))
          (first | (go_at_call 75; (with_reducible refine (Hv.out _).mono ?_); rintro e wR ⟨rfl, hbR⟩))
        have Hb2 := Lib.hid (below_up Hb.out.drew hbR Hb.out.size)
        have HC2 := Lib.hid (below_blk hbR (by show w.heap.size + 1 < wr.heap.size; exact hCl) (show wr.drew.heap[w.heap.size + 1]? = _ from HC.out))
        go_wp2_with fail
        go_roundg (L.length - (j + 1))
        case measure => omega
        case rel => exact ⟨j + 1, rfl, by omega, by go_num, Hat2, HC2, Hb2⟩
    · obtain rfl : j = L.length := by omega
      have hall := Hyes.out
      rw [List.take_length] at hall
      have hT := HT.out
      rw [hall] at hT
      obtain rfl : T = false := hT
      have Hb2 := Lib.hid (below_up Hb1.out Hb.out Hb1.out.size)
      go_wp2_with fail
      go_ret
      exact ⟨rfl, Hb2.out⟩
set_option maxRecDepth 100000 in
set_option maxHeartbeats 3200000 in
theorem sany (B : Nat) (v : Value) (L : List Gt) (h : Gt) (w : World) (hv : gtE.Sl w B v L) (hm : L.length ≤ 1048576) :
    Calls Try.prog 49 #[v, (.agg #[.int .i64 h.k, .int .i64 h.a, .int .i64 h.b, .int .i64 h.c])] w fun e w' => e = .returned (.bool (anyG L h)) ∧ Below w.heap.size w w' := by
  have Hb0 := Lib.hid (show Below w.heap.size w (w.alloc (.cells #[.int .i64 h.k, .int .i64 h.a, .int .i64 h.b, .int .i64 h.c] 59)) by go_grown)
  have HX := Lib.hid (heap_alloc_new w (.cells #[.int .i64 h.k, .int .i64 h.a, .int .i64 h.b, .int .i64 h.c] 59))
  have Ha := Lib.hid (fun x W => smeets x h W)
  have HT := Lib.hid (anyG_all L h)
  obtain ⟨T, hT⟩ : ∃ T, T = anyG L h := ⟨_, rfl⟩
  rw [← hT] at HT ⊢
  clear hT
  obtain ⟨a, cap, rfl, hcap, hr⟩ := hv
  have Hr := Lib.hid hr
  clear hr
  go_enter Try.func49, Try.ntmps49
  go_wp2_with fail
  go_loopg [5] L.length (fun m i wr => ∃ j : Nat, m = L.length - j ∧ j ≤ L.length ∧ i = .int .i64 j ∧ Hid ((L.take j).all (fun g => !mtG g h) = true) ∧ Hid (wr.heap[w.heap.size]? = some (.cells #[.int .i64 h.k, .int .i64 h.a, .int .i64 h.b, .int .i64 h.c] 59 (0, 0))) ∧ Hid (Below w.heap.size w wr))
  case atStart => exact ⟨0, rfl, Nat.zero_le _, rfl, rfl, HX, Hb0⟩
  case round =>
    obtain ⟨j, rfl, hj, rfl, Hyes, HC, Hb⟩ := hrel
    obtain ⟨p0, p1, p2, p3⟩ := blk_cells HC.out
    have hCl := lt_of_block HC.out
    by_cases hlt : j < L.length
    · obtain ⟨gl, rfl, _, hrow⟩ := Hr.out (by omega)
      obtain ⟨x, hx⟩ : ∃ x, L[j]? = some x := ⟨L[j], List.getElem?_eq_getElem hlt⟩
      have r1 := hrow.below Hb.out hrow.lt
      obtain ⟨c0, c1, c2, c3⟩ := GRow.cells r1 hx
      have hgl := r1.lt
      have Hv := Lib.hid (Ha.out x)
      have Hat := Lib.hid (all_take (p := fun g => !mtG g h) hx Hyes.out)
      have Hno := Lib.hid (fun k => all_no (p := fun g => !mtG g h) hx k)
      have hS : HGx wr w.heap.size h gl (j * 4) x wr := ⟨p0, p1, p2, p3, c0, c1, c2, c3, hCl, hgl, Below.refl _ _⟩
      clear hrow r1 hx
      cases hok : mtG x h with
      | true =>
        rw [hok] at Hv
        have hT := HT.out
        rw [Hno.out (by simp only [hok]; rfl)] at hT
        obtain rfl : T = true := hT
        clear hok
        go_upto_region 4 with fail
        go_region_held3 (fun w' => w'.cell? ⟨w.heap.size, 0, none⟩ = some (.int .i64 h.k) ∧ w'.cell? ⟨w.heap.size, 1, none⟩ = some (.int .i64 h.a) ∧ w'.cell? ⟨w.heap.size, 2, none⟩ = some (.int .i64 h.b) ∧ w'.cell? ⟨w.heap.size, 3, none⟩ = some (.int .i64 h.c) ∧ w'.cell? ⟨gl, (j * 4), none⟩ = some (.int .i64 x.k) ∧ w'.cell? ⟨gl, (j * 4) + 1, none⟩ = some (.int .i64 x.a) ∧ w'.cell? ⟨gl, (j * 4) + 2, none⟩ = some (.int .i64 x.b) ∧ w'.cell? ⟨gl, (j * 4) + 3, none⟩ = some (.int .i64 x.c) ∧ w.heap.size < w'.heap.size ∧ gl < w'.heap.size ∧ Below wr.heap.size wr w') (first | (show HGx wr w.heap.size h gl (j * 4) x _; (with_reducible exact hS.drew)) | (show HGx wr w.heap.size h gl (j * 4) x _; exact hS.drew.below hbR) | (show HGx wr w.heap.size h gl (j * 4) x _; (with_reducible refine HGx.below ?_ hbR); first | assumption | exact ⟨by assumption, by assumption, by assumption, by assumption, by assumption, by assumption, by assumption, by assumption, by assumption, by assumption, by assumption⟩))
          (first | (go_at_call 67; (with_reducible refine (Hv.out _).mono ?_); rintro e wR ⟨rfl, hbR⟩))
        have Hb2 := Lib.hid (below_up Hb.out.drew hbR Hb.out.size)
        go_wp2_with fail
        go_ret
        exact ⟨rfl, Hb2.out⟩
      | false =>
        rw [hok] at Hv
        have Hat2 := Lib.hid (Hat.out.trans (by simp only [hok]; rfl))
        clear hok Hat
        go_upto_region 4 with fail
        go_region_held3 (fun w' => w'.cell? ⟨w.heap.size, 0, none⟩ = some (.int .i64 h.k) ∧ w'.cell? ⟨w.heap.size, 1, none⟩ = some (.int .i64 h.a) ∧ w'.cell? ⟨w.heap.size, 2, none⟩ = some (.int .i64 h.b) ∧ w'.cell? ⟨w.heap.size, 3, none⟩ = some (.int .i64 h.c) ∧ w'.cell? ⟨gl, (j * 4), none⟩ = some (.int .i64 x.k) ∧ w'.cell? ⟨gl, (j * 4) + 1, none⟩ = some (.int .i64 x.a) ∧ w'.cell? ⟨gl, (j * 4) + 2, none⟩ = some (.int .i64 x.b) ∧ w'.cell? ⟨gl, (j * 4) + 3, none⟩ = some (.int .i64 x.c) ∧ w.heap.size < w'.heap.size ∧ gl < w'.heap.size ∧ Below wr.heap.size wr w') (first | (show HGx wr w.heap.size h gl (j * 4) x _; (with_reducible exact hS.drew)) | (show HGx wr w.heap.size h gl (j * 4) x _; exact hS.drew.below hbR) | (show HGx wr w.heap.size h gl (j * 4) x _; (with_reducible refine HGx.below ?_ hbR); first | assumption | exact ⟨by assumption, by assumption, by assumption, by assumption, by assumption, by assumption, by assumption, by assumption, by assumption, by assumption, by assumption⟩))
          (first | (go_at_call 67; (with_reducible refine (Hv.out _).mono ?_); rintro e wR ⟨rfl, hbR⟩))
        have Hb2 := Lib.hid (below_up Hb.out.drew hbR Hb.out.size)
        have HC2 := Lib.hid (below_blk hbR (by show w.heap.size < wr.heap.size; exact hCl) (show wr.drew.heap[w.heap.size]? = _ from HC.out))
        go_wp2_with fail
        go_roundg (L.length - (j + 1))
        case measure => omega
        case rel => exact ⟨j + 1, rfl, by omega, by go_num, Hat2, HC2, Hb2⟩
    · obtain rfl : j = L.length := by omega
      have hall := Hyes.out
      rw [List.take_length] at hall
      have hT := HT.out
      rw [hall] at hT
      obtain rfl : T = false := hT
      go_wp2_with fail
      go_ret
      exact ⟨rfl, Hb.out⟩
end Go.Proofs.Ytckfklpgnneodaa
