/- The program's ControlledGates. -/
import Derived.Test.YtlmiebeffdcfhaaCtKg
namespace Go.Proofs.Ytlmiebeffdcfhaa
open Go.RowKit
theorem ctBs_noI {q : Int} {L : List Gt} {j : Nat} {x : Gt} (hx : L[j]? = some x) (h : ctB q x = false) : ctBs q L = false ∧ ctRs q L = [] := by
  have e : ctBs q L = false := by
    unfold ctBs
    rw [List.all_eq_false]
    exact ⟨x, List.mem_of_getElem? hx, by rw [h]; decide⟩
  exact ⟨e, by unfold ctRs; rw [e]; rfl⟩
theorem ctBs_takeI {q : Int} {L : List Gt} {j : Nat} {x : Gt} (hx : L[j]? = some x) (h : ctBs q (L.take j) = true) (h2 : ctB q x = true) : ctBs q (L.take (j + 1)) = true := by
  unfold ctBs at h ⊢
  rw [List.take_add_one, hx, List.all_append, h]
  simp [h2]
attribute [local irreducible] World.cell?
set_option maxRecDepth 100000 in
set_option maxHeartbeats 6400000 in
theorem ictGs (B : Nat) (q : Int) (v : Value) (L : List Gt) (w : World) (hv : gtE.Sl w B v L) (hm : L.length ≤ 1048576) :
    Calls Try.prog 15 #[.int .i64 q, v] w fun e w' => ∃ r, e = .returned (.tuple #[r, .bool (ctBs q L)]) ∧ gtE.Sl w' w.heap.size r (ctRs q L) ∧ Below w.heap.size w w' := by
  obtain ⟨a, cap, rfl, hcap, hr⟩ := hv
  have Hr := Lib.hid hr
  clear hr
  obtain ⟨T, hT⟩ : ∃ T, T = ctBs q L := ⟨_, rfl⟩
  obtain ⟨R, hR⟩ : ∃ R, R = ctRs q L := ⟨_, rfl⟩
  rw [← hT, ← hR]
  have HT := Lib.hid hT
  have HR0 := Lib.hid hR
  clear hT hR
  have HO := Lib.hid (heap_alloc_new w (.cells #[.slice none 0 0] 56))
  have Hb0 := Lib.hid (show Below w.heap.size w (w.alloc (.cells #[.slice none 0 0] 56)) by go_grown)
  go_enter Try.func15, Try.ntmps15
  go_wp2_with fail
  go_loopg [13] L.length (fun m i wr => ∃ (j : Nat) (o : Value), m = L.length - j ∧ j ≤ L.length ∧ i = .int .i64 j ∧ Hid (ctBs q (L.take j) = true) ∧ Hid (wr.heap[w.heap.size]? = some (.cells #[o] 56 (0, 0))) ∧ Hid (wr.ownsRow (w.heap.size + 1) 27 4 o (ctLL q (L.take j)).length (gtE.flat (ctLL q (L.take j)))) ∧ Hid (Below w.heap.size w wr))
  case atStart => exact ⟨0, .slice none 0 0, rfl, Nat.zero_le _, rfl, Lib.hid rfl, HO, Lib.hid ⟨rfl, .inl ⟨rfl, rfl⟩⟩, Hb0⟩
  case round =>
    obtain ⟨j, o, rfl, hj, rfl, Hall, HO1, Hown, Hb⟩ := hrel
    have hs := Hb.out.size
    have hlen := ctLL_take q L j
    have o0 := cell_at HO1.out 0 _ rfl
    have hol := lt_of_block HO1.out
    by_cases hlt : j < L.length
    · obtain ⟨g, rfl, hBg, hrow⟩ := Hr.out (by omega)
      obtain ⟨x, hx⟩ : ∃ x, L[j]? = some x := ⟨L[j], List.getElem?_eq_getElem hlt⟩
      have r1 := hrow.below Hb.out hrow.lt
      obtain ⟨c0, c1, c2, c3⟩ := GRow.cells r1 hx
      have hgl := r1.lt
      have Hst := Lib.hid (ctLL_step (q := q) hx)
      have Hno := Lib.hid (fun h => ctBs_noI (q := q) hx h)
      have Hyes := Lib.hid (fun h => ctBs_takeI (q := q) hx Hall.out h)
      have hl7 := ctR_len q x
      have hR : ctB q x = true → ctR q x = ctL q x := fun h => by unfold ctR; rw [h]; rfl
      have HR := Lib.hid hR
      clear hR
      have Hc := Lib.hid (fun W => ictG q x W)
      have HO2 := Lib.hid (alloc_blk (.cells #[.int .i64 x.k, .int .i64 x.a, .int .i64 x.b, .int .i64 x.c] 27) HO1.out)
      have HX := Lib.hid (heap_alloc_new wr (.cells #[.int .i64 x.k, .int .i64 x.a, .int .i64 x.b, .int .i64 x.c] 27))
      have Hown2 := Lib.hid (Hown.out.alloc (.cells #[.int .i64 x.k, .int .i64 x.a, .int .i64 x.b, .int .i64 x.c] 27))
      have Hb2 := Lib.hid (Hb.out.alloc hs (.cells #[.int .i64 x.k, .int .i64 x.a, .int .i64 x.b, .int .i64 x.c] 27))
      generalize ctR q x = M at *
      generalize ctB q x = t at *
      generalize ctLL q (L.take j) = F at *
      obtain ⟨x0, x1, x2, x3⟩ := blk_cells HX.out
      have hxl := lt_of_block HX.out
      clear hrow r1 hx
      go_wp2_with fail
      refine (Hc.out _).mono ?_
      rintro e w3 ⟨u, rfl, hu, hb3⟩
      have HO3 := Lib.hid (below_blk hb3 (lt_of_block HO2.out) HO2.out)
      have Hown3 := Lib.hid (row_below Hown2.out hb3)
      have Hb3 := Lib.hid (below_nx Hb2.out hb3)
      have hs3 := Hb3.out.size
      have Hadd := Lib.hid (iaddL _ w.heap.size o u F.length (gtE.flat F) M w3 HO3.out Hown3.out hu (by omega))
      obtain ⟨pu, cu, rfl, -, -⟩ := hu
      clear hb3 Hc o0 hol x0 x1 x2 x3 hxl c0 c1 c2 c3 hgl
      have o0 := cell_at HO3.out 0 _ rfl
      have hol := lt_of_block HO3.out
      cases t with
      | false =>
        obtain ⟨e1, e2⟩ := Hno.out (by trivial)
        obtain rfl := HT.out.trans e1
        obtain rfl := HR0.out.trans e2
        clear e1 e2
        go_wp2_with fail
        go_returns
        exact ⟨_, rfl, Enc.Sl.nil, Hb3.out⟩
      | true =>
        obtain rfl := HR.out (by trivial)
        go_wp2_with fail
        refine (Hadd.out).mono ?_
        rintro e w5 ⟨rfl, ⟨v5, hO5, hown5⟩, hb5⟩
        have HO5 := Lib.hid hO5
        have Hown5 := Lib.hid (show w5.ownsRow (w.heap.size + 1) 27 4 v5 (F ++ ctL q x).length (gtE.flat (F ++ ctL q x)) by rw [List.length_append, gtE.flat_app]; exact hown5)
        have Hb5 := Lib.hid (Hb3.out.trans hb5)
        have Hall5 := Lib.hid (Hyes.out (by trivial))
        rw [← Hst.out] at Hown5
        clear hO5 hown5 hb5 o0 hol
        go_wp2_with fail
        go_roundg (L.length - (j + 1))
        case measure => omega
        case rel => exact ⟨j + 1, v5, rfl, by omega, by go_num, Hall5, HO5, Hown5, Hb5⟩
    · obtain rfl : j = L.length := by omega
      rw [List.take_length] at Hown Hall
      have Hsl := Lib.hid (Enc.Sl.of_own (E := gtE) Hown.out)
      obtain ⟨pq, cq, rfl, -, -⟩ := id Hsl.out
      have e1 := Hall.out
      have e2 : ctRs q L = ctLL q L := by unfold ctRs; rw [e1]; rfl
      obtain rfl := HT.out.trans e1
      obtain rfl := HR0.out.trans e2
      clear e1 e2 Hall
      have o0 := cell_at HO1.out 0 _ rfl
      go_wp2_with fail
      go_returns
      exact ⟨_, rfl, Hsl.out.mono (by omega), Hb.out⟩
end Go.Proofs.Ytlmiebeffdcfhaa
