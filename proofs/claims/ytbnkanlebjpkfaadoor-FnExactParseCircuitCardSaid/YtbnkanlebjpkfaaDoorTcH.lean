/- The model's FormatCircuit. -/
import Derived.Test.YtbnkanlebjpkfaaDoorTcF
import Derived.Test.YtbnkanlebjpkfaaDoorB05
namespace Go.Proofs.YtbnkanlebjpkfaaDoor
open Go.RowKit Go.Lib
/-- The text behind j gates. -/
def cU (n : Int) (L : List Gt) (j : Nat) : List UInt8 := hdT n ++ ((L.take j).map gtT).flatMap fun m => 10 :: m
theorem cU_zero (n : Int) (L : List Gt) : cU n L 0 = hdT n := by simp [cU]
theorem cU_all (n : Int) (L : List Gt) : cU n L L.length = cT n L := by unfold cU cT; rw [List.take_length]
theorem cU_step {n : Int} {L : List Gt} {j : Nat} {x : Gt} (h : L[j]? = some x) : cU n L (j + 1) = cU n L j ++ 10 :: gtT x := by
  unfold cU
  rw [List.take_add_one, h, List.map_append, List.flatMap_append, ← List.append_assoc]
  simp
theorem gtT_len {g : Gt} (h : gtB g 4 = true) : (gtT g).length ≤ 70 := by
  have h1 := gtU_len (gtB_parts h).2.1 (gqs_small h) (gqs g).length (Nat.le_refl _)
  rw [gtU_all] at h1
  have h2 : (gqs g).length ≤ 3 := by rw [gqs_len]; exact ar_le _
  omega
theorem hdT_len {n : Int} (h : 1 ≤ n ∧ n ≤ 4) : (hdT n).length ≤ 40 := by
  have h1 := itoa_len n (by omega) (by omega)
  unfold hdT word7
  simp only [List.flatMap_cons, List.flatMap_nil, List.append_nil, List.length_append, List.length_cons, List.length_nil]
  omega
theorem cU_len {n : Int} (hn : 1 ≤ n ∧ n ≤ 4) {L : List Gt} (hq : ∀ g ∈ L, gtB g 4 = true) : ∀ j, j ≤ L.length → (cU n L j).length ≤ 40 + 71 * j
  | 0, _ => by rw [cU_zero]; exact hdT_len hn
  | j + 1, hj => by
    obtain ⟨x, hx⟩ : ∃ x, L[j]? = some x := ⟨L[j]'(by omega), List.getElem?_eq_getElem _⟩
    have h1 := cU_len hn hq j (by omega)
    have h2 := gtT_len (hq x (List.mem_of_getElem? hx))
    rw [cU_step hx, List.length_append, List.length_cons]
    omega
attribute [local irreducible] World.cell?
set_option maxRecDepth 100000 in
set_option maxHeartbeats 3200000 in
theorem sfmtC (B : Nat) (n : Int) (v : Value) (L : List Gt) (w : World) (hv : gtE.Sl w B v L) (hm : L.length ≤ 1048576) :
    Calls Tryd.prog 15 #[.agg #[.int .i64 n, v]] w fun e w' => e = .returned (.string (cTxt n L)) ∧ Below w.heap.size w w' := by
  have HX := Lib.hid (heap_alloc_new w (.cells #[.int .i64 n, v] 39))
  have Hb0 := Lib.hid (show Below w.heap.size w (w.alloc (.cells #[.int .i64 n, v] 39)) by go_grown)
  have Hv := Lib.hid (hv.below Hb0.out)
  have H1 := Lib.hid (fun W (h : gtE.Sl W B v L) => svalidC B n v L W h hm)
  obtain ⟨a, cap, rfl, hcap, hr⟩ := hv
  obtain ⟨c0, c1⟩ := blk_cells2 HX.out
  unfold cTxt
  cases hok : ciB n L with
  | false =>
    rw [hok] at H1
    clear hok
    go_enter Tryd.func15, Tryd.ntmps15
    go_wp2_with fail
    refine (H1.out _ Hv.out).mono ?_
    rintro e w1 ⟨rfl, hb1⟩
    have Hb1 := Lib.hid (below_nx Hb0.out hb1)
    clear hb1
    go_wp2_with fail
    go_returns
    exact ⟨rfl, Hb1.out⟩
  | true =>
    rw [hok] at H1
    obtain ⟨hg, hn, h60⟩ := ciB_parts hok
    have hg4 : ∀ g ∈ L, gtB g 4 = true := fun g hx => gtB_mono (hg g hx)
    have Hlen := Lib.hid (fun j hj => cU_len hn hg4 j hj)
    have Hall := Lib.hid (cU_all n L)
    have Hg4 := Lib.hid hg4
    have HF := Lib.hid (fun W => sfmt n W (by omega) (by omega))
    have Hstep := Lib.hid (fun j x (h : L[j]? = some x) => cU_step (n := n) h)
    have hi := itoa_len n (by omega) (by omega)
    have Hhd := Lib.hid (show ByteArray.mk #[113, 117, 98, 105, 116, 115, 32] ++ toB (itoa n) = toB (cU n L 0) by
      rw [cU_zero]
      apply ByteArray.ext
      simp [toB, hdT, word7])
    rw [← Hall.out]
    obtain ⟨U, hU⟩ : ∃ U, U = cU n L := ⟨_, rfl⟩
    rw [← hU] at Hlen Hstep Hhd ⊢
    have hz2 : (toB (itoa n)).size ≤ 21 := by rw [toB_size]; exact hi
    have h9 : (ByteArray.mk #[113, 117, 98, 105, 116, 115, 32]).size = 7 := rfl
    have g1 : 7 + (toB (itoa n)).size ≤ 9223372036854775807 := by omega
    have g2 : (ByteArray.mk #[113, 117, 98, 105, 116, 115, 32]).size + (toB (itoa n)).size ≤ 9223372036854775807 := by omega
    have g3 : ¬ 9223372036854775807 < 7 + (toB (itoa n)).size := by omega
    clear hU hok hg hg4 Hall h9 hi hn
    generalize itoa n = E at *
    have Hr := Lib.hid hr
    clear hr
    go_enter Tryd.func15, Tryd.ntmps15
    go_wp2_with fail
    refine (H1.out _ Hv.out).mono ?_
    rintro e w1 ⟨rfl, hb1⟩
    have HX1 := Lib.hid (below_blk hb1 (lt_of_block HX.out) HX.out)
    have Hb1 := Lib.hid (below_nx Hb0.out hb1)
    clear hb1 c0 c1
    obtain ⟨c0, c1⟩ := blk_cells2 HX1.out
    have hxl := lt_of_block HX1.out
    go_wp2_with fail
    refine (HF.out _).mono ?_
    rintro e w3 ⟨rfl, hb3⟩
    have HX3 := Lib.hid (below_blk hb3 (lt_of_block HX1.out) HX1.out)
    have Hb3 := Lib.hid (below_nx Hb1.out hb3)
    clear hb3 c0 c1 hxl
    go_wp2_with fail
    go_loopw [3, 4] (fun s i wr => ∃ j : Nat, j ≤ L.length ∧ s = .string (toB (U j)) ∧ i = .int .i64 j ∧ Hid (Below w3.heap.size w3 wr)) (fun _ i _ => L.length - (intOf i).toNat)
    case atStart => exact ⟨0, Nat.zero_le _, congrArg Value.string Hhd.out, rfl, Below.refl _ _⟩
    case round =>
      obtain ⟨j, hj, rfl, rfl, Hb⟩ := hrel
      have HXr := below_blk Hb.out (lt_of_block HX3.out) HX3.out
      obtain ⟨p0, p1⟩ := blk_cells2 HXr
      have hxl := lt_of_block HXr
      clear HXr
      by_cases hlt : j < L.length
      · obtain ⟨gb, rfl, -, hrow⟩ := Hr.out (by omega)
        obtain ⟨x, hx⟩ : ∃ x, L[j]? = some x := ⟨L[j], List.getElem?_eq_getElem hlt⟩
        have r1 := (hrow.below Hb3.out hrow.lt).below Hb.out (Nat.lt_of_lt_of_le hrow.lt Hb3.out.size)
        obtain ⟨y0, y1, y2, y3⟩ := GRow.cells r1 hx
        have hgl := r1.lt
        have hx4 := Hg4.out x (List.mem_of_getElem? hx)
        have HG := Lib.hid (fun W => sfmtG x W)
        rw [show gtxt x = toB (gtT x) from if_pos hx4] at HG
        have hl1 := Hlen.out j (by omega)
        have hl2 := gtT_len hx4
        have Hcat := Lib.hid (show toB (U j) ++ ByteArray.mk #[10] ++ toB (gtT x) = toB (U (j + 1)) by
          rw [Hstep.out j x hx]
          apply ByteArray.ext
          simp [toB])
        have hz1 : (toB (U j)).size ≤ 10000 := by rw [toB_size]; omega
        have hz2 : (toB (gtT x)).size ≤ 1000 := by rw [toB_size]; omega
        have h9 : (ByteArray.mk #[10]).size = 1 := rfl
        have g1 : (toB (U j)).size + 1 ≤ 9223372036854775807 := by omega
        have g2 : (toB (U j)).size ≤ 9223372036854775806 := by omega
        have g3 : (toB (U j)).size + (ByteArray.mk #[10]).size ≤ 9223372036854775807 := by omega
        have g4 : (toB (U j) ++ ByteArray.mk #[10]).size + (toB (gtT x)).size ≤ 9223372036854775807 := by rw [ByteArray.size_append]; omega
        have g5 : (toB (U j)).size + 1 + (toB (gtT x)).size ≤ 9223372036854775807 := by omega
        have g6 : (toB (U j)).size + (ByteArray.mk #[10]).size + (toB (gtT x)).size ≤ 9223372036854775807 := by omega
        have g7 : ¬ 9223372036854775807 < (toB (U j)).size + 1 := by omega
        have g8 : ¬ 9223372036854775807 < (toB (U j)).size + 1 + (toB (gtT x)).size := by omega
        have g9 : ¬ 9223372036854775807 < (toB (U j)).size + (ByteArray.mk #[10]).size := by omega
        clear h9
        clear hx hrow r1 hx4 hl1 hl2
        generalize gtT x = E at *
        go_wp2_with (first | (go_at_call 8; refine (HG.out _).mono ?_; rintro e w5 ⟨rfl, hb5⟩; have Hb5 := Lib.hid (below_nx Hb.out hb5)))
        go_roundw
        case rel => exact ⟨j + 1, by omega, congrArg Value.string Hcat.out, by go_num, Hb5⟩
        case measure => simp [intOf]; omega
      · obtain rfl : j = L.length := by omega
        go_wp2_with fail
        go_returns
        exact ⟨rfl, below_nx Hb3.out Hb.out⟩
end Go.Proofs.YtbnkanlebjpkfaaDoor
