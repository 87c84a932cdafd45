/- The law FnGate: InverseGate is an involution and preserves the qubits, at every code. No condition. -/
import Derived.Test.YtgknokaibgckkaaInit
import Derived.Test.YtgknokaibgckkaaGtK
import Derived.Test.YtgknokaibgckkaaGtS
import Derived.Test.YtgknokaibgckkaaGtV
import Derived.Test.YtgknokaibgckkaaIsS
import Derived.Lib.SmallJoins
import Derived.WalkKit
import Derived.ProofKit
import Derived.OpenShut
import Derived.Deep.DeepHandedRow
import Derived.Lib.LaidTab
import Derived.LaidMore
import Derived.LaidHandle
import Derived.Lay
import Derived.Stop.LaidErr
namespace Go.Proofs.Ytgknokaibgckkaa.fnGate
open Go.ChangeShapes Go.WideShapes Go.ChangeAt Go.RowKit Go.Lib
theorem gqs_inv (g : Gt) : gqs (invG g) = gqs g := by unfold gqs invG; simp only [ar_invK]
theorem gtB_inv (g : Gt) (n : Int) : gtB (invG g) n = gtB g n := by
  have h : gtOk (invG g) = gtOk g := by funext hi j; unfold gtOk; rw [gqs_inv]; simp only [invG, ar_invK]; by_cases hj : ar g.k ≤ j <;> simp only [hj, if_true, if_false] <;> rfl
  unfold gtB; rw [h]; simp only [invG, ar_invK]
theorem clB_inv (g : Gt) : clB (invG g) = clB g := by
  unfold clB invG
  simp only [ar_invK]
  have e7 : decide (invK g.k = 7) = decide (g.k = 8) := by apply decide_eq_decide.2; unfold invK; constructor <;> intro h <;> (repeat' split at *) <;> omega
  have e8 : decide (invK g.k = 8) = decide (g.k = 7) := by apply decide_eq_decide.2; unfold invK; constructor <;> intro h <;> (repeat' split at *) <;> omega
  have e12 : decide (invK g.k = 12) = decide (g.k = 12) := by apply decide_eq_decide.2; unfold invK; constructor <;> intro h <;> (repeat' split at *) <;> omega
  rw [e7, e8, e12]
  cases decide (g.k = 7) <;> cases decide (g.k = 8) <;> rfl
def G2 (w : World) (a b : Nat) (x y : Gt) (w' : World) : Prop := w'.cell? ⟨a, 0, none⟩ = some (.int .i64 x.k) ∧ w'.cell? ⟨a, 1, none⟩ = some (.int .i64 x.a) ∧ w'.cell? ⟨a, 2, none⟩ = some (.int .i64 x.b) ∧ w'.cell? ⟨a, 3, none⟩ = some (.int .i64 x.c) ∧ w'.cell? ⟨b, 0, none⟩ = some (.int .i64 y.k) ∧ w'.cell? ⟨b, 1, none⟩ = some (.int .i64 y.a) ∧ w'.cell? ⟨b, 2, none⟩ = some (.int .i64 y.b) ∧ w'.cell? ⟨b, 3, none⟩ = some (.int .i64 y.c) ∧ a < w'.heap.size ∧ b < w'.heap.size ∧ Below w.heap.size w w'
theorem G2.drew {w w1 : World} {a b : Nat} {x y : Gt} (h : G2 w a b x y w1) : G2 w a b x y w1.drew :=
  let ⟨c0, c1, c2, c3, d0, d1, d2, d3, z0, z1, l⟩ := h; ⟨c0, c1, c2, c3, d0, d1, d2, d3, z0, z1, l.drew⟩
theorem G2.below {w w1 w2 : World} {a b : Nat} {x y : Gt} (h : G2 w a b x y w1) (hb : Below w1.heap.size w1 w2) : G2 w a b x y w2 :=
  let ⟨c0, c1, c2, c3, d0, d1, d2, d3, z0, z1, l⟩ := h
  ⟨cell_below c0 hb z0, cell_below c1 hb z0, cell_below c2 hb z0, cell_below c3 hb z0, cell_below d0 hb z1, cell_below d1 hb z1, cell_below d2 hb z1, cell_below d3 hb z1, Nat.lt_of_lt_of_le z0 hb.size, Nat.lt_of_lt_of_le z1 hb.size, below_up l hb l.size⟩
theorem G2.low {w w1 : World} {a b : Nat} {x y : Gt} (h : G2 w a b x y w1) : Below w.heap.size w w1 := let ⟨_, _, _, _, _, _, _, _, _, _, l⟩ := h; l
attribute [local irreducible] World.cell?
set_option maxRecDepth 100000 in
set_option maxHeartbeats 6400000 in
theorem core (a0 : Option Addr) (len cap : Nat) (hs : len ≤ 1048576) (_ : len ≤ cap) (w : World) (hcode : CodeAt w w.heap.size a0 len) :
    Calls Try.prog 3 #[.slice a0 len cap] w fun e w' => e = .returned (.bool true) ∧ Below w.heap.size w w' := by
  have Hc := Lib.hid hcode
  have Hb := Lib.hid (Below.refl w.heap.size w)
  clear hcode
  go_enter Try.func3, Try.ntmps3
  go_wp2_with (go_at_call 10; go_in)
  refine (drawVg a0 len cap _ Hc.out).mono ?_
  rintro e w1 ⟨⟨g, n, rfl, hgi, n0, n1⟩, hb1⟩
  have Hia := Lib.hid (fun W => iinvG g W)
  have Hsa := Lib.hid (fun W => sinvG g W)
  have Hib := Lib.hid (fun W => iinvG (invG g) W)
  have Hvg := Lib.hid (fun W => ivalidG g n W n0 n1)
  have Hvs := Lib.hid (fun W => svalidG g n W)
  have Hvh := Lib.hid (fun W => ivalidG (invG g) n W n0 n1)
  have Hqg := Lib.hid (fun W => igqs g W)
  have Hqh := Lib.hid (fun W => igqs (invG g) W)
  have Har := Lib.hid (fun W => iar g.k W hgi.1 hgi.2)
  have Hcg := Lib.hid (fun W => iisCl g W)
  have Hch := Lib.hid (fun W => iisCl (invG g) W)
  have hql := gqs_len g
  have h3 := ar_le g.k
  have hnR : (gqs g).length ≤ 1048576 := by omega
  rw [invG_invG] at Hib
  rw [gtB_inv] at Hvh
  rw [gqs_inv] at Hqh
  rw [clB_inv] at Hch
  rw [← hql] at Har
  clear hql h3 hgi n0 n1
  generalize gqs g = q at *
  generalize clB g = c at *
  generalize gtB g n = b at *
  generalize invG g = h at *
  have HA := Lib.hid (heap_alloc_new w1 (.cells #[.int .i64 g.k, .int .i64 g.a, .int .i64 g.b, .int .i64 g.c] 25))
  have Hb := Lib.hid (below_nx Hb.out hb1)
  have hs1 := Hb.out.size
  have Hb := Lib.hid (Hb.out.alloc hs1 (.cells #[.int .i64 g.k, .int .i64 g.a, .int .i64 g.b, .int .i64 g.c] 25))
  clear hb1
  obtain ⟨c0, c1, c2, c3⟩ := blk_cells HA.out
  go_wp2_with fail
  refine (Hia.out _).mono ?_
  rintro e w2 ⟨rfl, hb2⟩
  have Hb := Lib.hid (below_nx Hb.out hb2)
  have hz2 := hb2.size
  simp at hz2
  have HA := Lib.hid (alloc_blk (.cells #[.int .i64 h.k, .int .i64 h.a, .int .i64 h.b, .int .i64 h.c] 25) (below_blk hb2 (lt_of_block HA.out) HA.out))
  have HB := Lib.hid (heap_alloc_new w2 (.cells #[.int .i64 h.k, .int .i64 h.a, .int .i64 h.b, .int .i64 h.c] 25))
  have hs2 := Hb.out.size
  have Hb := Lib.hid (Hb.out.alloc hs2 (.cells #[.int .i64 h.k, .int .i64 h.a, .int .i64 h.b, .int .i64 h.c] 25))
  clear hb2 c0 c1 c2 c3 Hia
  obtain ⟨c0, c1, c2, c3⟩ := blk_cells HA.out
  obtain ⟨d0, d1, d2, d3⟩ := blk_cells HB.out
  have hS : G2 w w1.heap.size w2.heap.size g h (w2.alloc (.cells #[.int .i64 h.k, .int .i64 h.a, .int .i64 h.b, .int .i64 h.c] 25)) := ⟨c0, c1, c2, c3, d0, d1, d2, d3, lt_of_block HA.out, lt_of_block HB.out, Hb.out⟩
  clear HA HB Hb c0 c1 c2 c3 d0 d1 d2 d3
  go_wp2_with fail
  go_region_held3 (fun w' => w'.cell? ⟨w1.heap.size, 0, none⟩ = some (.int .i64 g.k) ∧ w'.cell? ⟨w1.heap.size, 1, none⟩ = some (.int .i64 g.a) ∧ w'.cell? ⟨w1.heap.size, 2, none⟩ = some (.int .i64 g.b) ∧ w'.cell? ⟨w1.heap.size, 3, none⟩ = some (.int .i64 g.c) ∧ w'.cell? ⟨w2.heap.size, 0, none⟩ = some (.int .i64 h.k) ∧ w'.cell? ⟨w2.heap.size, 1, none⟩ = some (.int .i64 h.a) ∧ w'.cell? ⟨w2.heap.size, 2, none⟩ = some (.int .i64 h.b) ∧ w'.cell? ⟨w2.heap.size, 3, none⟩ = some (.int .i64 h.c) ∧ w1.heap.size < w'.heap.size ∧ w2.heap.size < w'.heap.size ∧ Below w.heap.size w w') (first | (show G2 w w1.heap.size w2.heap.size g h _; (with_reducible exact hS.drew)) | (show G2 w w1.heap.size w2.heap.size g h _; (with_reducible refine G2.below ?_ hbR); first | assumption | exact ⟨by assumption, by assumption, by assumption, by assumption, by assumption, by assumption, by assumption, by assumption, by assumption, by assumption, by assumption⟩))
    (first | (go_at_call 13; (first | (with_reducible refine (Hsa.out _).mono ?_)); rintro e wR ⟨rfl, hbR⟩; (first | (have HQg := Lib.hid (HQg.out.below hbR)) | skip); (first | (have HQh := Lib.hid (HQh.out.below hbR)) | skip)) | (go_at_call 12; (first | (with_reducible refine (Hib.out _).mono ?_)); rintro e wR ⟨rfl, hbR⟩; (first | (have HQg := Lib.hid (HQg.out.below hbR)) | skip); (first | (have HQh := Lib.hid (HQh.out.below hbR)) | skip)) | (go_at_call 14; (first | (with_reducible refine (Hvg.out _).mono ?_) | (with_reducible refine (Hvh.out _).mono ?_)); rintro e wR ⟨rfl, hbR⟩; (first | (have HQg := Lib.hid (HQg.out.below hbR)) | skip); (first | (have HQh := Lib.hid (HQh.out.below hbR)) | skip)) | (go_at_call 15; (first | (with_reducible refine (Hvs.out _).mono ?_)); rintro e wR ⟨rfl, hbR⟩; (first | (have HQg := Lib.hid (HQg.out.below hbR)) | skip); (first | (have HQh := Lib.hid (HQh.out.below hbR)) | skip)) | (go_at_call 17; (with_reducible refine (Hqg.out _).mono ?_); rintro e wR ⟨vR, rfl, hdR, hbR⟩; (first | (have HQg := Lib.hid (HQg.out.below hbR)) | skip); (first | (have HQh := Lib.hid (HQh.out.below hbR)) | skip); have HQg := Lib.hid hdR.upto; obtain ⟨aR, cR, rfl, -, -⟩ := hdR) | (go_at_call 17; (with_reducible refine (Hqh.out _).mono ?_); rintro e wR ⟨vR, rfl, hdR, hbR⟩; (first | (have HQg := Lib.hid (HQg.out.below hbR)) | skip); (first | (have HQh := Lib.hid (HQh.out.below hbR)) | skip); have HQh := Lib.hid hdR.upto; obtain ⟨aR, cR, rfl, -, -⟩ := hdR) | (go_at_call 16; (first | (with_reducible refine (sameIs _ _ _ _ q q _ HQh.out.sl HQg.out.sl hnR hnR).mono ?_)); rintro e wR ⟨rfl, hbR⟩; (first | (have HQg := Lib.hid (HQg.out.below hbR)) | skip); (first | (have HQh := Lib.hid (HQh.out.below hbR)) | skip)) | (go_at_call 18; (first | (with_reducible refine (Har.out _).mono ?_)); rintro e wR ⟨rfl, hbR⟩; (first | (have HQg := Lib.hid (HQg.out.below hbR)) | skip); (first | (have HQh := Lib.hid (HQh.out.below hbR)) | skip)) | (go_at_call 19; (first | (with_reducible refine (Hcg.out _).mono ?_) | (with_reducible refine (Hch.out _).mono ?_)); rintro e wR ⟨rfl, hbR⟩; (first | (have HQg := Lib.hid (HQg.out.below hbR)) | skip); (first | (have HQh := Lib.hid (HQh.out.below hbR)) | skip)))
  all_goals go_wp2_with fail
  all_goals have hS2 : G2 w w1.heap.size w2.heap.size g h wR := by first | assumption | exact ⟨by assumption, by assumption, by assumption, by assumption, by assumption, by assumption, by assumption, by assumption, by assumption, by assumption, by assumption⟩
  all_goals go_region_held3 (fun w' => w'.cell? ⟨w1.heap.size, 0, none⟩ = some (.int .i64 g.k) ∧ w'.cell? ⟨w1.heap.size, 1, none⟩ = some (.int .i64 g.a) ∧ w'.cell? ⟨w1.heap.size, 2, none⟩ = some (.int .i64 g.b) ∧ w'.cell? ⟨w1.heap.size, 3, none⟩ = some (.int .i64 g.c) ∧ w'.cell? ⟨w2.heap.size, 0, none⟩ = some (.int .i64 h.k) ∧ w'.cell? ⟨w2.heap.size, 1, none⟩ = some (.int .i64 h.a) ∧ w'.cell? ⟨w2.heap.size, 2, none⟩ = some (.int .i64 h.b) ∧ w'.cell? ⟨w2.heap.size, 3, none⟩ = some (.int .i64 h.c) ∧ w1.heap.size < w'.heap.size ∧ w2.heap.size < w'.heap.size ∧ Below w.heap.size w w') (first | (show G2 w w1.heap.size w2.heap.size g h _; (with_reducible exact hS2.drew)) | (show G2 w w1.heap.size w2.heap.size g h _; (with_reducible refine G2.below ?_ hbR); first | assumption | exact ⟨by assumption, by assumption, by assumption, by assumption, by assumption, by assumption, by assumption, by assumption, by assumption, by assumption, by assumption⟩))
    (first | (go_at_call 13; (first | (with_reducible refine (Hsa.out _).mono ?_)); rintro e wR ⟨rfl, hbR⟩; (first | (have HQg := Lib.hid (HQg.out.below hbR)) | skip); (first | (have HQh := Lib.hid (HQh.out.below hbR)) | skip)) | (go_at_call 12; (first | (with_reducible refine (Hib.out _).mono ?_)); rintro e wR ⟨rfl, hbR⟩; (first | (have HQg := Lib.hid (HQg.out.below hbR)) | skip); (first | (have HQh := Lib.hid (HQh.out.below hbR)) | skip)) | (go_at_call 14; (first | (with_reducible refine (Hvg.out _).mono ?_) | (with_reducible refine (Hvh.out _).mono ?_)); rintro e wR ⟨rfl, hbR⟩; (first | (have HQg := Lib.hid (HQg.out.below hbR)) | skip); (first | (have HQh := Lib.hid (HQh.out.below hbR)) | skip)) | (go_at_call 15; (first | (with_reducible refine (Hvs.out _).mono ?_)); rintro e wR ⟨rfl, hbR⟩; (first | (have HQg := Lib.hid (HQg.out.below hbR)) | skip); (first | (have HQh := Lib.hid (HQh.out.below hbR)) | skip)) | (go_at_call 17; (with_reducible refine (Hqg.out _).mono ?_); rintro e wR ⟨vR, rfl, hdR, hbR⟩; (first | (have HQg := Lib.hid (HQg.out.below hbR)) | skip); (first | (have HQh := Lib.hid (HQh.out.below hbR)) | skip); have HQg := Lib.hid hdR.upto; obtain ⟨aR, cR, rfl, -, -⟩ := hdR) | (go_at_call 17; (with_reducible refine (Hqh.out _).mono ?_); rintro e wR ⟨vR, rfl, hdR, hbR⟩; (first | (have HQg := Lib.hid (HQg.out.below hbR)) | skip); (first | (have HQh := Lib.hid (HQh.out.below hbR)) | skip); have HQh := Lib.hid hdR.upto; obtain ⟨aR, cR, rfl, -, -⟩ := hdR) | (go_at_call 16; (first | (with_reducible refine (sameIs _ _ _ _ q q _ HQh.out.sl HQg.out.sl hnR hnR).mono ?_)); rintro e wR ⟨rfl, hbR⟩; (first | (have HQg := Lib.hid (HQg.out.below hbR)) | skip); (first | (have HQh := Lib.hid (HQh.out.below hbR)) | skip)) | (go_at_call 18; (first | (with_reducible refine (Har.out _).mono ?_)); rintro e wR ⟨rfl, hbR⟩; (first | (have HQg := Lib.hid (HQg.out.below hbR)) | skip); (first | (have HQh := Lib.hid (HQh.out.below hbR)) | skip)) | (go_at_call 19; (first | (with_reducible refine (Hcg.out _).mono ?_) | (with_reducible refine (Hch.out _).mono ?_)); rintro e wR ⟨rfl, hbR⟩; (first | (have HQg := Lib.hid (HQg.out.below hbR)) | skip); (first | (have HQh := Lib.hid (HQh.out.below hbR)) | skip)))
  all_goals go_wp2_with fail
  all_goals go_ret
  all_goals exact ⟨rfl, G2.low (a := w1.heap.size) (b := w2.heap.size) (x := g) (y := h) (by first | assumption | exact ⟨by assumption, by assumption, by assumption, by assumption, by assumption, by assumption, by assumption, by assumption, by assumption, by assumption, by assumption⟩)⟩
set_option maxRecDepth 100000 in
set_option maxHeartbeats 400000 in
theorem walk (a0 : Option Addr) (len cap : Nat) (w : World) (hm : len ≤ maxLen) (hlc : len ≤ cap) (hc : len ≤ 1048576 → CodeAt w w.heap.size a0 len) :
    Calls Try.prog 3 #[.slice a0 len cap] w fun e w' => e = .returned (.bool true) ∧ Below w.heap.size w w' := by
  by_cases hs : len ≤ 1048576
  · exact core a0 len cap hs hlc w (hc hs)
  · unfold maxLen at hm
    clear hc
    go_enter Try.func3, Try.ntmps3
    go_wp2_with (go_at_call 10; go_in)
    go_ret
    exact ⟨rfl, Below.refl _ _⟩

open Go.ChangeMaps (open_string shut_string)
theorem laidOut : laidOutB Try.prog = true := by kernel_rfl
theorem own : ownKnob Try.prog.godebug = none := by kernel_rfl
set_option maxRecDepth 100000 in
/-- What the walk gives, for every argument. -/
theorem contract (H : Type) (enc : TypeId × Value → H) (W : World) (base : Nat) (args : Array Value) (ds gs : List (DataW H)) (before : List MemPlace)
    (hval : ∀ (j : Nat) t v, Try.f3.params[j]? = some t → args[j]? = some v → Value.okWide Try.prog W .any base t v)
    (hW : DataW.Whole enc Try.prog Try.f3.params.toList Rows.fnGateSpec.vars false W args.toList ds gs before) :
    Calls Try.prog 3 args W fun e W' => ∃ v, e = .returned v ∧ Rows.fnGateSpec.post enc Try.prog Try.f3 false true false false W args v W' := by
  have hW' := hW
  obtain ⟨p, q, hA0, hV, rfl, hfz, hnd⟩ := hW
  have hA : DataW.TrodAll enc Try.prog W 0 (fun _ => true) true Try.f3.params.toList args.toList ds p := hA0
  rw [Try.params3] at hA hval
  obtain ⟨v0, vs0, d0, ds0, p0, q0, hargs, rfl, rfl, h0, r0⟩ := trodAll_cons hA
  obtain ⟨rfl, rfl, rfl⟩ := trodAll_nil r0
  obtain rfl : args = #[v0] := by cases args; simp_all
  obtain ⟨rfl, rfl⟩ := trodVars_none hV
  obtain ⟨ca, cl, cc, rfl⟩ := okWide_slice Try.underlying22 (hval 0 22 v0 rfl rfl)
  have k0 := h0
  have lt0 : ∀ x ∈ p0, x.block < W.heap.size := by obtain ⟨m, hm⟩ := k0; exact DataW.trod_lt m _ _ _ hm
  have ch : (cl ≤ 1048576 → CodeAt W W.heap.size ca cl) ∧ cl ≤ maxLen ∧ cl ≤ cc := by
    obtain ⟨fuel, hf⟩ := h0
    rcases open_ints Try.underlying22 Try.underlying5 (by kernel_rfl) hf with ⟨hcs, _⟩ | ⟨x, l, c, zs, hcs, _, hl, hm, hz, _, hcell, hwz⟩
    · simp [Value.cells] at hcs
      obtain ⟨rfl, rfl, rfl⟩ := hcs
      exact ⟨fun _ => ⟨by omega, fun h => absurd h (by omega)⟩, Nat.zero_le _, Nat.le_refl _⟩
    · simp [Value.cells] at hcs
      obtain ⟨rfl, rfl, rfl⟩ := hcs
      have hz2 : zs.length = cc := by simpa using hz
      exact ⟨fun hs => code_of hs (by omega) hcell hwz, by omega, hl⟩
  clear hA0
  simp only [List.append_nil] at hW'
  refine (walk ca cl cc W ch.2.1 ch.2.2 ch.1).mono fun e W' ⟨he, hg⟩ => ?_
  subst he
  exact ⟨_, rfl, _, _, _, [], _, [], hW', trodAll_mk1 (shut_bool Try.underlying4 _), (trodAll_cons_mk (Below.trod laidOut (by kernel_rfl) (of_decide_eq_true (by kernel_rfl)) k0 hg lt0) trodAll_mk0), rfl, hg.frame _, fun h => by cases h⟩

set_option maxRecDepth 100000 in
theorem lifted (os : Os) (started : os.Started) (H : Type) (enc : TypeId × Value → H) :
    ReturnsInHanded {} Try.checked os 3 .any (Rows.fnGateSpec.pre6 enc Try.prog Try.f3 Rows.fnGateRow.domain false) (Rows.fnGateSpec.post enc Try.prog Try.f3 false true false false) := by
  refine returnsInHanded_of_change (C := Try.checked) own started (by kernel_rfl) Try.func3
    (ChangeSpec.witness6 (enc := enc) (C := Try.checked) false ⟨#[], #[.slice none 0 0], []⟩ 8 (by kernel_rfl) (by kernel_rfl) (by kernel_rfl) (by kernel_rfl)) ?_
  intro W base args ds gs before hval hW _ _
  exact contract H enc W base args ds gs before hval hW
theorem closedFacts : joinedFacts Try.pinned.checked.prog 3 Try.f3 Rows.fnGateSpec Rows.fnGateRow = true := by
  unfold joinedFacts
  rw [init_may, init_facts.2.1, init_facts.2.2]
  kernel_rfl
theorem said : Rows.FnGateSaid :=
  OpenClaim.holds_of_wide 3 Try.f3 rfl rfl rfl rfl rfl rfl rfl ⟨rfl, rfl, rfl, rfl, rfl⟩ rfl rfl rfl rfl rfl (by kernel_rfl) Try.func3 closedFacts
    (of_decide_eq_true (by kernel_rfl)) (by unfold Func.isWrapper; first | (rw [if_pos (by decide +kernel)]; kernel_rfl) | (rw [if_neg (by decide +kernel)]; exact ⟨rfl, rfl⟩))
    (fun os started H enc _ => lifted os started H enc)
end Go.Proofs.Ytgknokaibgckkaa.fnGate
