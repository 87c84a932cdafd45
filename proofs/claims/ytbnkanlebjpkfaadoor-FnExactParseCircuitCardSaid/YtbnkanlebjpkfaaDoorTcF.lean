/- The model's FormatGate. -/
import Derived.Test.YtbnkanlebjpkfaaDoorB13
import Derived.Test.YtbnkanlebjpkfaaDoorB11
import Derived.Test.YtbnkanlebjpkfaaDoorGtB
namespace Go.Proofs.YtbnkanlebjpkfaaDoor
open Go.RowKit Go.Lib
/-- The text behind j qubits. -/
def gtU (k : Int) (q : List Int) (j : Nat) : List UInt8 := nm k ++ ((q.take j).map itoa).flatMap fun m => 32 :: m
theorem gtU_zero (k : Int) (q : List Int) : gtU k q 0 = nm k := by simp [gtU]
theorem gtU_all (g : Gt) : gtU g.k (gqs g) (gqs g).length = gtT g := by unfold gtU gtT; rw [List.take_length]
theorem gtU_step {k : Int} {q : List Int} {j : Nat} {x : Int} (h : q[j]? = some x) : gtU k q (j + 1) = gtU k q j ++ 32 :: itoa x := by
  unfold gtU
  rw [List.take_add_one, h, List.map_append, List.flatMap_append, ← List.append_assoc]
  simp
theorem itoa_one {x : Int} (h0 : 0 ≤ x) (h4 : x < 4) : (itoa x).length ≤ 21 := itoa_len x (by omega) (by omega)
theorem gtU_len {k : Int} (hk : 1 ≤ k ∧ k ≤ 12) {q : List Int} (hq : ∀ x ∈ q, 0 ≤ x ∧ x < 4) : ∀ j, j ≤ q.length → (gtU k q j).length ≤ 4 + 22 * j
  | 0, _ => by rw [gtU_zero]; exact (nm_plain hk).2.2.1
  | j + 1, hj => by
    obtain ⟨x, hx⟩ : ∃ x, q[j]? = some x := ⟨q[j]'(by omega), List.getElem?_eq_getElem _⟩
    have h1 := gtU_len hk hq j (by omega)
    have h2 := itoa_one (hq x (List.mem_of_getElem? hx)).1 (hq x (List.mem_of_getElem? hx)).2
    rw [gtU_step hx, List.length_append, List.length_cons]
    omega
theorem gqs_small {g : Gt} {n : Int} (h : gtB g n = true) : ∀ x ∈ gqs g, 0 ≤ x ∧ x < 4 := by
  obtain ⟨hn, hk, ha, hb, hc⟩ := gtB_parts h
  intro x hx
  have hx := List.mem_of_mem_take hx
  simp only [List.mem_cons, List.not_mem_nil, or_false] at hx
  rcases hx with rfl | rfl | rfl <;> omega
attribute [local irreducible] World.cell?
set_option maxRecDepth 100000 in
set_option maxHeartbeats 3200000 in
theorem sfmtG (g : Gt) (w : World) :
    Calls Tryd.prog 8 #[(.agg #[.int .i64 g.k, .int .i64 g.a, .int .i64 g.b, .int .i64 g.c])] w fun e w' => e = .returned (.string (gtxt g)) ∧ Below w.heap.size w w' := by
  have Hv := Lib.hid (fun W => svalidG g 4 W)
  have HX := Lib.hid (heap_alloc_new w (.cells #[.int .i64 g.k, .int .i64 g.a, .int .i64 g.b, .int .i64 g.c] 25))
  have Hb0 := Lib.hid (show Below w.heap.size w (w.alloc (.cells #[.int .i64 g.k, .int .i64 g.a, .int .i64 g.b, .int .i64 g.c] 25)) by go_grown)
  obtain ⟨c0, c1, c2, c3⟩ := blk_cells HX.out
  unfold gtxt
  cases hok : gtB g 4 with
  | false =>
    rw [hok] at Hv
    clear hok
    go_enter Tryd.func8, Tryd.ntmps8
    go_wp2_with fail
    refine (Hv.out _).mono ?_
    rintro e w1 ⟨rfl, hb1⟩
    have Hb1 := Lib.hid (below_nx Hb0.out hb1)
    clear hb1
    go_wp2_with fail
    go_returns
    exact ⟨rfl, Hb1.out⟩
  | true =>
    rw [hok] at Hv
    have hk := (gtB_parts hok).2.1
    have hq := gqs_small hok
    have hq3 : (gqs g).length ≤ 3 := by rw [gqs_len]; exact ar_le _
    have Hlen := Lib.hid (fun j hj => gtU_len hk hq j hj)
    have Hall := Lib.hid (gtU_all g)
    have Hz := Lib.hid (gtU_zero g.k (gqs g))
    have Hn := Lib.hid (fun W => sname g.k W)
    have Hq := Lib.hid (fun W => sgqs g W)
    have Hqs := Lib.hid hq
    rw [← toB_nm] at Hn
    have Hstep := Lib.hid (fun j x (h : (gqs g)[j]? = some x) => gtU_step (k := g.k) h)
    rw [← Hz.out] at Hn
    rw [← Hall.out]
    generalize gqs g = q at *
    obtain ⟨U, hU⟩ : ∃ U, U = gtU g.k q := ⟨_, rfl⟩
    rw [← hU] at Hlen Hn Hstep ⊢
    clear hU hok hk hq Hall Hz
    go_enter Tryd.func8, Tryd.ntmps8
    go_wp2_with fail
    refine (Hv.out _).mono ?_
    rintro e w1 ⟨rfl, hb1⟩
    have HX1 := Lib.hid (below_blk hb1 (lt_of_block HX.out) HX.out)
    have Hb1 := Lib.hid (below_nx Hb0.out hb1)
    clear hb1 c0 c1 c2 c3
    obtain ⟨c0, c1, c2, c3⟩ := blk_cells HX1.out
    have hxl := lt_of_block HX1.out
    go_wp2_with fail
    refine (Hn.out _).mono ?_
    rintro e w2 ⟨rfl, hb2⟩
    have HX2 := Lib.hid (below_blk hb2 (lt_of_block HX1.out) HX1.out)
    have Hb2 := Lib.hid (below_nx Hb1.out hb2)
    clear hb2 c0 c1 c2 c3 hxl
    obtain ⟨c0, c1, c2, c3⟩ := blk_cells HX2.out
    have hxl := lt_of_block HX2.out
    go_wp2_with fail
    refine (Hq.out _).mono ?_
    rintro e w3 ⟨v, rfl, hs, hb3⟩
    obtain ⟨a, cap, rfl, hcap, hr⟩ := hs
    have Hr := Lib.hid hr
    have Hb3 := Lib.hid (below_nx Hb2.out hb3)
    clear hb3 c0 c1 c2 c3 hxl hr
    go_wp2_with fail
    go_loopw [3, 5] (fun s i wr => ∃ j : Nat, j ≤ q.length ∧ s = .string (toB (U j)) ∧ i = .int .i64 j ∧ Hid (Below w3.heap.size w3 wr)) (fun _ i _ => q.length - (intOf i).toNat)
    case atStart => exact ⟨0, Nat.zero_le _, rfl, rfl, Below.refl _ _⟩
    case round =>
      obtain ⟨j, hj, rfl, rfl, Hb⟩ := hrel
      by_cases hlt : j < q.length
      · obtain ⟨gb, rfl, -, hrow⟩ := Hr.out (by omega)
        obtain ⟨x, hx⟩ : ∃ x, q[j]? = some x := ⟨q[j], List.getElem?_eq_getElem hlt⟩
        have d0 := IRow.cell (hrow.below Hb.out hrow.lt) hx
        have hxs := Hqs.out x (List.mem_of_getElem? hx)
        have HF := Lib.hid (fun W => sfmt x W (by omega) (by omega))
        have hl1 := Hlen.out j (by omega)
        have hl2 := itoa_one hxs.1 hxs.2
        have Hcat := Lib.hid (show toB (U j) ++ ByteArray.mk #[32] ++ toB (itoa x) = toB (U (j + 1)) by
          rw [Hstep.out j x hx]
          apply ByteArray.ext
          simp [toB])
        have hz1 : (toB (U j)).size ≤ 100 := by rw [toB_size]; omega
        have hz2 : (toB (itoa x)).size ≤ 21 := by rw [toB_size]; exact hl2
        have h9 : (ByteArray.mk #[32]).size = 1 := rfl
        have g1 : (toB (U j)).size + 1 ≤ 9223372036854775807 := by omega
        have g2 : (toB (U j)).size ≤ 9223372036854775806 := by omega
        have g3 : (toB (U j)).size + (ByteArray.mk #[32]).size ≤ 9223372036854775807 := by omega
        have g4 : (toB (U j) ++ ByteArray.mk #[32]).size + (toB (itoa x)).size ≤ 9223372036854775807 := by rw [ByteArray.size_append]; omega
        have g5 : (toB (U j)).size + 1 + (toB (itoa x)).size ≤ 9223372036854775807 := by omega
        have g6 : (toB (U j)).size + (ByteArray.mk #[32]).size + (toB (itoa x)).size ≤ 9223372036854775807 := by omega
        have g7 : ¬ 9223372036854775807 < (toB (U j)).size + 1 := by omega
        have g8 : ¬ 9223372036854775807 < (toB (U j)).size + 1 + (toB (itoa x)).size := by omega
        have g9 : ¬ 9223372036854775807 < (toB (U j)).size + (ByteArray.mk #[32]).size := by omega
        clear h9 hx hrow hxs hl1 hl2
        generalize itoa x = E at *
        go_wp2_with (first | (go_at_call 28; refine (HF.out _).mono ?_; rintro e w5 ⟨rfl, hb5⟩; have Hb5 := Lib.hid (below_nx Hb.out hb5)))
        go_roundw
        case rel => exact ⟨j + 1, by omega, congrArg Value.string Hcat.out, by go_num, Hb5⟩
        case measure => simp [intOf]; omega
      · obtain rfl : j = q.length := by omega
        go_wp2_with fail
        go_returns
        exact ⟨rfl, below_nx Hb3.out Hb.out⟩
end Go.Proofs.YtbnkanlebjpkfaaDoor
