/- The program's within: what is around a gate, the gate, and what is around it undone. -/
import Derived.Test.YtlmiebeffdcfhaaGreatKeepI
import Derived.Test.YtlmiebeffdcfhaaGreatBaseC02
import Derived.Test.YtlmiebeffdcfhaaGreatBaseC05
namespace Go.Proofs.YtlmiebeffdcfhaaGreat
open Go.RowKit Go.Shelf
attribute [local go_sem] Oper.semAt_some
/-- The list while what is around is walked backwards. -/
def InvW (w : World) (b S : Nat) (a : Option Addr) (k cap : Nat) (N : List Gt) (pre : List (Nat × Gt)) (W : World) : Prop :=
  ((∃ ov, W.heap[b]? = some (.cells #[ov] 78 (0, 0)) ∧ W.ownsRow (b + 1) 25 4 ov (N.length + pre.length) (gtE.flat (N ++ pre.map fun x => invG x.2))) ∧ W.heap[S]? = some (.cells #[.slice a k cap] 28 (0, 0))) ∧ Below w.heap.size w W
theorem InvW.own {w : World} {b S : Nat} {a : Option Addr} {k cap B : Nat} {N : List Gt} (hB : w.heap.size ≤ B) : OwnFrom B (InvW w b S a k cap N) :=
  OwnFrom.and (fun _ _ _ _ ⟨⟨ov, h1, h2⟩, h3⟩ hg hr => ⟨⟨ov, blk_keepI h1 hg fun r e => (hr r e).2, own_keepI h2 hg fun r e => (hr r e).2⟩, blk_keepI h3 hg fun r e => (hr r e).2⟩) (ownFrom_below (Nat.le_refl _) hB)
attribute [local irreducible] World.cell?
set_option maxRecDepth 100000 in
set_option maxHeartbeats 6400000 in
theorem iwithin (C : Nat) (g : Gt) (v : Value) (M : List Gt) (w : World) (hv : gtE.Sl w C v M) (hm : M.length ≤ 1048576) :
    Calls Tryz.prog 67 #[(.agg #[.int .i64 g.k, .int .i64 g.a, .int .i64 g.b, .int .i64 g.c]), v] w fun e w' => ∃ r, e = .returned r ∧ gtE.Sl w' w.heap.size r (M ++ g :: invL M) ∧ Below w.heap.size w w' := by
  have HV := Lib.hid hv
  obtain ⟨pa, ca, hpa, -, hr⟩ := id hv
  have Hrow := Lib.hid hr
  clear hv hr
  subst hpa
  have Hb0 := Lib.hid (show Below w.heap.size w ((w.alloc (.cells #[.int .i64 g.k, .int .i64 g.a, .int .i64 g.b, .int .i64 g.c] 25)).alloc (.cells #[.slice none 0 0] 78)) by go_grown)
  have HX := Lib.hid (alloc_blk (.cells #[.slice none 0 0] 78) (heap_alloc_new w (.cells #[.int .i64 g.k, .int .i64 g.a, .int .i64 g.b, .int .i64 g.c] 25)))
  have HO := Lib.hid (show ((w.alloc (.cells #[.int .i64 g.k, .int .i64 g.a, .int .i64 g.b, .int .i64 g.c] 25)).alloc (.cells #[.slice none 0 0] 78)).heap[w.heap.size + 1]? = some (.cells #[.slice none 0 0] 78 (0, 0)) by
    simpa using heap_alloc_new (w.alloc (.cells #[.int .i64 g.k, .int .i64 g.a, .int .i64 g.b, .int .i64 g.c] 25)) (.cells #[.slice none 0 0] 78))
  have Hown := Lib.hid (World.ownsRow_nil ((w.alloc (.cells #[.int .i64 g.k, .int .i64 g.a, .int .i64 g.b, .int .i64 g.c] 25)).alloc (.cells #[.slice none 0 0] 78)) (w.heap.size + 1 + 1) 25 4)
  have HV0 := Lib.hid (HV.out.below Hb0.out)
  refine (callsIn_wide (n := 3)).1 ?_
  refine callsIn_of_wp_marks Tryz.func67 rfl trivial ?_ rfl
  simp only [Tryz.ntmps67, List.size_toArray, List.length_cons, List.length_nil, Nat.reduceAdd, Nat.reduceSub, Array.replicate_succ, Array.replicate_zero, List.push_toArray, List.append_toArray, List.nil_append, List.cons_append]
  gi_wp2_with fail
  refine ⟨trivial, (callsIn_wide.2 (iaddL2 C (w.heap.size + 1) (.slice none 0 0) _ 0 [] M _ HO.out Hown.out HV0.out (by omega))).mono ?_⟩
  rintro e w1 ⟨rfl, ⟨v1, hO1, hown1⟩, hb1, hz1, hk1⟩
  have hX1 := below_blk hb1 (by omega) HX.out
  have Hb1 := Lib.hid (Hb0.out.trans (hb1.mono (by omega)))
  have hs1 := Hb1.out.size
  have HO1 := Lib.hid hO1
  have Hown1 := Lib.hid hown1
  obtain ⟨x0, x1, x2, x3⟩ := blk_cells hX1
  have hxl := lt_of_block hX1
  have hnz : ∀ o : Obj, (w1.alloc o).heap.size = w1.heap.size + 1 := fun o => by simp
  have Hnew := Lib.hid (show gtE.Sl (w1.alloc (.cells #[.int .i64 g.k, .int .i64 g.a, .int .i64 g.b, .int .i64 g.c] 25)) w1.heap.size (.slice (some ⟨w1.heap.size, 0, none⟩) 1 1) [g] from Enc.Sl.mk rfl (Nat.le_refl _) (Nat.le_refl _) ⟨_, heap_alloc_new w1 _, rfl⟩)
  have HO1a := Lib.hid (alloc_blk (.cells #[.int .i64 g.k, .int .i64 g.a, .int .i64 g.b, .int .i64 g.c] 25) HO1.out)
  have Hown1a := Lib.hid (Hown1.out.alloc (.cells #[.int .i64 g.k, .int .i64 g.a, .int .i64 g.b, .int .i64 g.c] 25))
  have Hb1a := Lib.hid (Hb1.out.alloc hs1 (.cells #[.int .i64 g.k, .int .i64 g.a, .int .i64 g.b, .int .i64 g.c] 25))
  clear hO1 hown1 hb1 hz1 hk1 HX HO Hown Hb0 HV0 hX1
  gi_wp2_with fail
  refine ⟨trivial, (callsIn_wide.2 (iaddL2 w1.heap.size (w.heap.size + 1) v1 _ (0 + M.length) _ [g] _ HO1a.out Hown1a.out Hnew.out (by simp; omega))).mono ?_⟩
  rintro e w2 ⟨rfl, ⟨v2, hO2, hown2⟩, hb2, hz2, hk2⟩
  have Hb2 := Lib.hid (Hb1a.out.trans (hb2.mono (by omega)))
  have hs2 := Hb2.out.size
  have HO2 := Lib.hid hO2
  have hfl : [] ++ gtE.flat M ++ gtE.flat [g] = gtE.flat (M ++ [g]) := by rw [List.nil_append, ← gtE.flat_app]
  have hln : 0 + M.length + [g].length = (M ++ [g]).length := by simp
  rw [hfl, hln] at hown2
  have Hown2 := Lib.hid hown2
  clear hO2 hown2 hb2 hz2 hk2 x0 x1 x2 x3 hxl hfl hln HO1 Hown1 Hb1 HO1a Hown1a Hb1a Hnew
  gi_wp2_with fail
  refine ⟨trivial, (callsIn_wide.2 (ibwd _ _ _ _)).mono ?_⟩
  rintro e w' ⟨rfl, rfl⟩
  gi_wp2_with fail
  have HO3 := Lib.hid (alloc_blk (.cells #[.slice pa M.length ca] 28) HO2.out)
  have HS3 := Lib.hid (heap_alloc_new w2 (.cells #[.slice pa M.length ca] 28))
  have Hb3 := Lib.hid (Hb2.out.alloc hs2 (.cells #[.slice pa M.length ca] 28))
  have hz3 : (w2.alloc (.cells #[.slice pa M.length ca] 28)).heap.size = w2.heap.size + 1 := by simp
  have HV3 := Lib.hid (fun h => by obtain ⟨g, e, _, hr⟩ := Hrow.out h; exact (⟨g, e, hr.lt, hr.below Hb3.out hr.lt⟩ : ∃ g, pa = some ⟨g, 0, none⟩ ∧ g < w.heap.size ∧ gtE.Row _ g M))
  have Hown3 := Lib.hid (Hown2.out.alloc (.cells #[.slice pa M.length ca] 28))
  have hol2 := lt_of_block HO2.out
  obtain ⟨W0, hW0⟩ : ∃ W0, w2.alloc (.cells #[.slice pa M.length ca] 28) = W0 := ⟨_, rfl⟩
  rw [hW0] at HO3 HS3 Hb3 hz3 HV3 Hown3 ⊢
  clear hW0 HO2 Hown2 Hb2
  have hinv0 : InvW w (w.heap.size + 1) w2.heap.size pa M.length ca (M ++ [g]) [] W0 := ⟨⟨⟨v2, HO3.out, by simpa using Hown3.out⟩, HS3.out⟩, Hb3.out⟩
  have HI0 := Lib.hid hinv0
  clear hinv0 Hown3 HO3
  refine wpIn_rangeFunc_ownH rfl (by omega) (gf := 128) (lb := #[.pointer (some ⟨w2.heap.size, 0, none⟩)]) rfl trivial (enters_of Tryz.func128 (by kernel_rfl) rfl)
    (ibwd_stops Fence.wide _ trivial rfl (by omega) w2.heap.size w.heap.size ca pa M hm W0 (by omega) HS3.out HV3.out) KpB.trans (kpB_b (by omega) (by omega)) (Below.refl _ _) (fun _ => rfl)
    (InvW w (w.heap.size + 1) w2.heap.size pa M.length ca (M ++ [g])) (fun _ _ _ => False) (InvW.own (by omega)) (fun _ _ _ _ _ hs _ _ => hs)
    HI0.out
    (fun x a' W => ∃ Bx, W0.heap.size ≤ Bx ∧ W.heap[Bx]? = some (.cells #[.int .i64 x.2.k, .int .i64 x.2.a, .int .i64 x.2.b, .int .i64 x.2.c] 25) ∧ a' = { tmps := #[(.agg #[.int .i64 g.k, .int .i64 g.a, .int .i64 g.b, .int .i64 g.c]), .slice pa M.length ca, .pointer (some ⟨w.heap.size, 0, none⟩), undef, .slice none 0 0, .pointer (some ⟨w.heap.size + 1, 0, none⟩), undef, .pointer (some ⟨Bx, 0, none⟩), .slice pa M.length ca, .tuple #[], (.agg #[.int .i64 g.k, .int .i64 g.a, .int .i64 g.b, .int .i64 g.c]), .slice (some ⟨w1.heap.size, 0, none⟩) 1 1, .tuple #[], .slice pa M.length ca, .func (.func 128) #[] #[.pointer (some ⟨w2.heap.size, 0, none⟩)], .int .i64 (x.1 : Int), (.agg #[.int .i64 x.2.k, .int .i64 x.2.a, .int .i64 x.2.b, .int .i64 x.2.c]), undef, undef, undef, undef, undef, undef], defers := [] })
    (fun x a' _ W W' row hs hg hr => by obtain ⟨Bx, h1, h2, h3⟩ := hs; exact ⟨Bx, h1, blk_keepI h2 hg fun r e => (hr r e).2, h3⟩) ?assign ?body ?done ?stop
  case assign =>
    intro l pre x W K hi hK
    gi_wp2_with fail
    have hsW : W0.heap.size ≤ W.heap.size := by have := lt_of_block hi.1.2; omega
    exact hK _ _ ((KeepsOthers.alloc _ _).from _) ⟨(Below.refl _ W).alloc (by omega) _, Below.heap_alloc _ _ _ (by omega)⟩ ((InvW.own (by omega)).alloc _ hi) ⟨W.heap.size, hsW, heap_alloc_new W _, rfl⟩
  case body =>
    rintro l pre x a' W hl ⟨r, hr⟩ ⟨⟨⟨ov, hO, hown⟩, hS⟩, hB⟩ ⟨Bx, hBx, hX, rfl⟩ hlt
    obtain ⟨x0, x1, x2, x3⟩ := blk_cells hX
    have hxl := lt_of_block hX
    have hol := lt_of_block hO
    have hsl := lt_of_block hS
    have HO3 := Lib.hid hO
    have HS3 := Lib.hid hS
    have HB3 := Lib.hid hB
    have Hown3 := Lib.hid hown
    have hsW := hB.size
    clear hO hS hB hown hX hr
    gi_wp2_with fail
    refine ⟨trivial, (CallsIn.inRound l (callsIn_wide.2 (iinvG x.2 W))).mono ?_⟩
    rintro e w4 ⟨rfl, hb4⟩
    have HO4 := Lib.hid (alloc_blk (.cells #[.int .i64 (invG x.2).k, .int .i64 (invG x.2).a, .int .i64 (invG x.2).b, .int .i64 (invG x.2).c] 25) (below_blk hb4 (lt_of_block HO3.out) HO3.out))
    have HS4 := Lib.hid (alloc_blk (.cells #[.int .i64 (invG x.2).k, .int .i64 (invG x.2).a, .int .i64 (invG x.2).b, .int .i64 (invG x.2).c] 25) (below_blk hb4 (lt_of_block HS3.out) HS3.out))
    have Hown4 := Lib.hid ((row_below Hown3.out hb4).alloc (.cells #[.int .i64 (invG x.2).k, .int .i64 (invG x.2).a, .int .i64 (invG x.2).b, .int .i64 (invG x.2).c] 25))
    have hs4 := hb4.size
    have HbW := Lib.hid (hb4.alloc hs4 (.cells #[.int .i64 (invG x.2).k, .int .i64 (invG x.2).a, .int .i64 (invG x.2).b, .int .i64 (invG x.2).c] 25))
    have HB4 := Lib.hid (below_nx HB3.out HbW.out)
    have Hnew := Lib.hid (show gtE.Sl (w4.alloc (.cells #[.int .i64 (invG x.2).k, .int .i64 (invG x.2).a, .int .i64 (invG x.2).b, .int .i64 (invG x.2).c] 25)) w4.heap.size (.slice (some ⟨w4.heap.size, 0, none⟩) 1 1) [invG x.2] from Enc.Sl.mk rfl (Nat.le_refl _) (Nat.le_refl _) ⟨_, heap_alloc_new w4 _, rfl⟩)
    have hfl : gtE.flat ((M ++ [g]) ++ pre.map fun x => invG x.2) ++ gtE.flat [invG x.2] = gtE.flat ((M ++ [g]) ++ (pre ++ [x]).map fun x => invG x.2) := by rw [List.map_append, ← List.append_assoc, gtE.flat_app ((M ++ [g]) ++ _)]; rfl
    have hln : (M ++ [g]).length + pre.length + [invG x.2].length = (M ++ [g]).length + (pre ++ [x]).length := by simp; omega
    clear hb4 x0 x1 x2 x3 hxl
    gi_wp2_with fail
    refine ⟨trivial, (CallsIn.inRound l (callsIn_wide.2 (iaddL2 w4.heap.size (w.heap.size + 1) ov (.slice (some ⟨w4.heap.size, 0, none⟩) 1 1) ((M ++ [g]).length + pre.length) _ [invG x.2] _ HO4.out Hown4.out Hnew.out (by simp; omega)))).mono ?_⟩
    rintro e w5 ⟨rfl, ⟨v5, hO5, hown5⟩, hb5, hz5, hk5⟩
    rw [hfl, hln] at hown5
    gi_wp2_with fail
    have hkeep : ∀ g o, (w4.alloc (.cells #[.int .i64 (invG x.2).k, .int .i64 (invG x.2).a, .int .i64 (invG x.2).b, .int .i64 (invG x.2).c] 25)).heap[g]? = some o → (∀ cs t f, o ≠ Obj.cells cs t f) → w5.heap[g]? = some o := fun g o ho hc => by
      refine hk5 g o ho (fun e => ?_) (own_other Hown4.out ho fun cs f => hc cs _ f)
      subst e; rw [HO4.out] at ho; exact hc _ _ _ (Option.some.inj ho).symm
    have hS5 := hk5 _ _ HS4.out (by omega) (own_other Hown4.out HS4.out fun cs f e => by injection e with _ e2; exact absurd e2 (by decide))
    refine ⟨⟨?_, fun g o _ ho hc => hkeep g o (below_blk HbW.out (lt_of_block ho) ho) fun cs t f e => by subst e; cases hc⟩, ⟨?_, ?_⟩, ⟨⟨v5, hO5, hown5⟩, hS5⟩, ?_⟩
    · have := HbW.out.size; omega
    · exact (HbW.out.mono (by omega)).trans (hb5.mono (by omega))
    · exact hS5.trans HS3.out.symm
    · exact HB4.out.trans (hb5.mono (by omega))
  case done =>
    rintro D ys W hD rfl ⟨⟨⟨ov, hO, hown⟩, hS⟩, hB⟩ hK
    have hend : (M ++ [g]) ++ (bwd M M.length).map (fun x => invG x.2) = M ++ g :: invL M := by rw [bwd_inv]; simp
    have hel : (M ++ [g]).length + (bwd M M.length).length = (M ++ g :: invL M).length := by rw [bwd_len]; simp [invL_len]; omega
    rw [hend, hel] at hown
    obtain ⟨po, co, hov⟩ : ∃ q c, ov = .slice q (M ++ g :: invL M).length c := by
      rcases hown.2 with ⟨h, h'⟩ | ⟨g, cap, cur, h, _⟩
      · exact ⟨none, 0, by rw [h', h]⟩
      · exact ⟨_, _, h⟩
    subst hov
    have o0 := cell_at hO 0 _ rfl
    have hol := lt_of_block hO
    have HBd := Lib.hid hB
    have Hownd := Lib.hid hown
    have HKd := Lib.hid hK
    clear hO hB hown hK hS
    gi_wp2_with fail
    refine ⟨by simp, .inl ⟨_, _, rfl, run_takeDeferred HKd.out, ?_⟩⟩
    refine ⟨.slice po (M ++ g :: invL M).length co, ?_, _, rfl, ?_, ?_⟩
    · simp [results, Tryz.results67, go_sem]
    · have h := ownsRow_putObj Hownd.out (.deferred none) HKd.out rfl
      exact (Enc.Sl.of_own (E := gtE) h).mono (by omega)
    · exact HBd.out.trans (belowK_b (w := w) (Nat.le_refl _) _ D _ _ (by omega) HKd.out rfl rfl)
  case stop =>
    rintro D c pre W _ _ h _
    exact h.elim
end Go.Proofs.YtlmiebeffdcfhaaGreat
