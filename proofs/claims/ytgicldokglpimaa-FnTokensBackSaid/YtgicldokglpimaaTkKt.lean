/- The program's Tokenize. -/
import Derived.Test.YtgicldokglpimaaTkKa
import Derived.Test.YtgicldokglpimaaTkV
import Derived.WalkMore
import Derived.ScopeJumps
namespace Go.Proofs.Ytgicldokglpimaa
open Go.RowKit
theorem bs_dropx {X : ByteArray} {k : Nat} : bs (X.extract k X.size) = (bs X).drop k := by
  rw [bs_ext, List.take_of_length_le (by rw [List.length_drop, bs_len]; exact Nat.le_refl _)]
theorem drop_take {p : UInt8 → Bool} : ∀ l : List UInt8, l.drop (l.takeWhile p).length = l.dropWhile p
  | [] => rfl
  | x :: r => by
    rw [List.takeWhile_cons, List.dropWhile_cons]
    split
    · exact drop_take r
    · rfl
theorem take_le {p : UInt8 → Bool} : ∀ l : List UInt8, (l.takeWhile p).length ≤ l.length
  | [] => Nat.le_refl _
  | x :: r => by
    rw [List.takeWhile_cons]
    split
    · have := take_le (p := p) r; rw [List.length_cons, List.length_cons]; omega
    · exact Nat.zero_le _
attribute [local irreducible] World.cell?
set_option maxRecDepth 100000 in
set_option maxHeartbeats 12800000 in
theorem itok (T : ByteArray) (w : World) (hm : T.size ≤ 1073741824) :
    Calls Try.prog 13 #[.string T] w fun e w' => ∃ r, e = .returned (.tuple #[r, .bool (tz (bs T) []).isSome]) ∧ tkE.Sl w' w.heap.size r ((tz (bs T) []).getD []) ∧ Below w.heap.size w w' := by
  obtain ⟨i0, hi, hz0, hz1, hz2⟩ := info_parts infoTk
  obtain ⟨R, hR⟩ : ∃ R, R = tz (bs T) [] := ⟨_, rfl⟩
  rw [← hR]
  have HR := Lib.hid hR
  clear hR
  go_enter Try.func13, Try.ntmps13
  go_wp2_with fail
  refine wp_scope_jumps 1 (fun a' w' => ∃ u4 u5 u6 u7 u9 u10 u11 u12 u13 u14 u15 u16 u17 u18 u19 u20 u21 u22 u23 u24 u25 u26 u27 u28 u29 u30 u31 u32 u33 u34 u35 u36 u37 u38 u39 u40 u41 u42 u43 u44 u45 u46 : Value, a' = { tmps := #[.string T, undef, .slice none 0 0, .bool false, u4, u5, u6, u7, .string T, u9, u10, u11, u12, u13, u14, u15, u16, u17, u18, u19, u20, u21, u22, u23, u24, u25, u26, u27, u28, u29, u30, u31, u32, u33, u34, u35, u36, u37, u38, u39, u40, u41, u42, u43, u44, u45, u46, undef], defers := [] } ∧ Hid (R = none) ∧ Hid (Below w.heap.size w w')) (fun _ _ => 0) rfl ?_ ?_
  · go_wp2_with fail
    go_step3
    go_wp2_with fail
    go_loopg [4, 5] T.size (fun m o r wr => ∃ (X : ByteArray) (M : List Tk), m = X.size ∧ X.size ≤ T.size ∧ r = .string X ∧ M.length ≤ 160 ∧ Hid (R = tz (bs X) M) ∧ Hid (wr.ownsRow w.heap.size 31 2 o M.length (tkE.flat M)) ∧ Hid (Below w.heap.size w wr))
    case atStart => exact ⟨T, [], rfl, Nat.le_refl _, rfl, Nat.zero_le _, HR, Lib.hid (World.ownsRow_nil _ _ _ _), Lib.hid (Below.refl _ _)⟩
    case round =>
      obtain ⟨X, M, rfl, hXT, rfl, hM, Hz, Hown, Hb⟩ := hrel
      have hs := Hb.out.size
      by_cases hX : X = ⟨#[]⟩
      · subst hX
        have hR : R = some M := by
          have h := Hz.out
          rw [show bs ⟨#[]⟩ = [] from rfl, tz] at h
          exact h
        subst hR
        have Hsl := Lib.hid (Enc.Sl.of_own (E := tkE) Hown.out)
        obtain ⟨pq, cq, rfl, -, -⟩ := id Hsl.out
        go_wp2_with fail
        simp only [Exit.jump]
        go_returns
        exact ⟨_, rfl, Hsl.out, Hb.out⟩
      · obtain ⟨n1, n2, n3, n4⟩ := bs_nil hX
        have hpos : 0 < X.size := by
          rcases Nat.eq_zero_or_pos X.size with h | h
          · exact absurd (List.eq_nil_of_length_eq_zero (by rw [bs_len]; exact h)) n1
          · exact h
        have hx := bs_at hpos
        have hd := drop_at hx
        rw [List.drop_zero] at hd
        have Hz1 := Lib.hid (show R = tz (X[0] :: (bs X).drop 1) M from Hz.out.trans (congrArg (fun l => tz l M) hd))
        have Hl := Lib.hid (fun W => ilead X W (by omega))
        have Hye := Lib.hid (show bs (sb ((bs X).takeWhile isL)) = (bs X).takeWhile isL from bs_sb _)
        have hys : (sb ((bs X).takeWhile isL)).size ≤ X.size := by rw [sb_size, ← bs_len X]; exact take_le _
        have Hdy := Lib.hid (show bs (X.extract (sb ((bs X).takeWhile isL)).size X.size) = (bs X).dropWhile isL by rw [bs_dropx, sb_size, drop_take])
        have Hd1 := Lib.hid (show bs (X.extract 1 X.size) = (bs X).drop 1 from bs_dropx)
        obtain ⟨Y, hY⟩ : ∃ Y, Y = sb ((bs X).takeWhile isL) := ⟨_, rfl⟩
        rw [← hY] at Hl Hye hys Hdy
        have Hd := Lib.hid hd
        obtain ⟨x, hxe⟩ : ∃ x, x = X[0] := ⟨_, rfl⟩
        have Hxe := Lib.hid hxe
        rw [← hxe] at Hz1 Hd
        clear hx hd hY
        by_cases hsp : x = 32 ∨ x = 10
        · have Hz2 := Lib.hid (show R = tz (bs (X.extract 1 X.size)) M by rw [Hd1.out]; exact Hz1.out.trans (tz_skip hsp))
          rw [hxe] at hsp
          have Hsp := Lib.hid hsp
          have Hown1 := Lib.hid (Hown.out.alloc (.cells #[.int .i64 1, .string Y] 31))
          have Hb1 := Lib.hid (Hb.out.alloc hs (.cells #[.int .i64 1, .string Y] 31))
          have h1I : (1 : Int) ≤ (X.size : Int) := by omega
          clear hsp
          by_cases h32 : X[0] = 32
          · have e1 : ((X[0].toNat : Int) == 32) = true := u8_eq h32
            clear h32 hxe
            go_wp2_with fail
            refine (Hl.out _).mono ?_
            rintro e wq ⟨rfl, rfl⟩
            go_wp2_with fail
            go_roundg (X.extract 1 X.size).size
            case measure => rw [ByteArray.size_extract]; omega
            case rel => exact ⟨X.extract 1 X.size, M, rfl, by rw [ByteArray.size_extract]; omega, rfl, hM, Hz2, Hown1, Hb1⟩
          · have e1 : ((X[0].toNat : Int) == 32) = false := u8_ne h32
            have e2 : ((X[0].toNat : Int) == 10) = true := u8_eq (by rcases Hsp.out with h | h; exact absurd h h32; exact h)
            clear h32 hxe
            go_wp2_with fail
            refine (Hl.out _).mono ?_
            rintro e wq ⟨rfl, rfl⟩
            go_wp2_with fail
            go_roundg (X.extract 1 X.size).size
            case measure => rw [ByteArray.size_extract]; omega
            case rel => exact ⟨X.extract 1 X.size, M, rfl, by rw [ByteArray.size_extract]; omega, rfl, hM, Hz2, Hown1, Hb1⟩
        · have e1 : ((X[0].toNat : Int) == 32) = false := u8_ne (fun h => hsp (.inl (hxe.trans h)))
          have e2 : ((X[0].toNat : Int) == 10) = false := u8_ne (fun h => hsp (.inr (hxe.trans h)))
          obtain ⟨po0, co0, rfl⟩ := own_shape Hown.out
          rcases mkT_cases x with hmk | ⟨t, hmk, hx3⟩
          · have Hwd := Lib.hid (tz_wd (r := (bs X).drop 1) (M := M) hsp hmk)
            have e3 : ((X[0].toNat : Int) == 59) = false := u8_ne (show X[0] ≠ 59 from fun h => by rw [hxe.trans h, show mkT 59 = some ⟨2, []⟩ from rfl] at hmk; cases hmk)
            have e4 : ((X[0].toNat : Int) == 123) = false := u8_ne (show X[0] ≠ 123 from fun h => by rw [hxe.trans h, show mkT 123 = some ⟨3, []⟩ from rfl] at hmk; cases hmk)
            have e5 : ((X[0].toNat : Int) == 125) = false := u8_ne (show X[0] ≠ 125 from fun h => by rw [hxe.trans h, show mkT 125 = some ⟨4, []⟩ from rfl] at hmk; cases hmk)
            have hZ : R = if wordB (bs Y) = true ∧ M.length ≠ 160 then tz (bs (X.extract Y.size X.size)) (M ++ [⟨1, bs Y⟩]) else none := by
              have h := Hz1.out
              rw [Hwd.out, ← Hd.out, ← Hye.out, ← Hdy.out] at h
              exact h
            have HZ := Lib.hid hZ
            have HF0 := Lib.hid (fun W => ifmtT 1 Y W (by omega))
            have HX := Lib.hid (heap_alloc_new wr (.cells #[.int .i64 1, .string Y] 31))
            have Hown1 := Lib.hid (Hown.out.alloc (.cells #[.int .i64 1, .string Y] 31))
            have Hb1 := Lib.hid (Hb.out.alloc hs (.cells #[.int .i64 1, .string Y] 31))
            obtain ⟨s0, s1⟩ := blk_cells2 HX.out
            have hxl := lt_of_block HX.out
            have hyI : (Y.size : Int) ≤ (X.size : Int) := by omega
            clear hZ hmk hsp hxe
            cases hW : wordB (bs Y) with
            | false =>
              have HN : Hid (R = none) := Lib.hid (by rw [HZ.out, hW]; rfl)
              have HF : Hid (∀ W, Calls Try.prog 14 #[.agg #[.int .i64 1, .string Y]] W fun e w' => e = .returned (.string ⟨#[]⟩) ∧ Below W.heap.size W w') := by
                have h := HF0
                rw [tkT_no (T := Y) (k := 1) (by simp [hW]) (.inr (by omega))] at h
                exact h
              clear hW HF0
              go_wp2_with fail
              refine (Hl.out _).mono ?_
              rintro e wq ⟨rfl, rfl⟩
              go_wp2_with fail
              refine (HF.out _).mono ?_
              rintro e w2 ⟨rfl, hb2⟩
              have HX2 := Lib.hid (below_blk hb2 (lt_of_block HX.out) HX.out)
              have Hown2 := Lib.hid (row_below Hown1.out hb2)
              have Hb2 := Lib.hid (below_nx Hb1.out hb2)
              clear hb2 s0 s1
              obtain ⟨s0, s1⟩ := blk_cells2 HX2.out
              have hxl2 := lt_of_block HX2.out
              go_wp2_with fail
              go_step3
              exact ⟨rfl, _, _, _, _, _, _, _, _, _, _, _, _, _, _, _, _, _, _, _, _, _, _, _, _, _, _, _, _, _, _, _, _, _, _, _, _, _, _, _, _, _, _, rfl, HN, Hb2⟩
            | true =>
              have h1 := (wordB_all hW).2.1
              rw [bs_len] at h1
              have HF : Hid (∀ W, Calls Try.prog 14 #[.agg #[.int .i64 1, .string Y]] W fun e w' => e = .returned (.string Y) ∧ Below W.heap.size W w') := by
                have h := HF0
                rw [show tkT ⟨1, bs Y⟩ = bs Y by unfold tkT; rw [if_pos ⟨rfl, hW⟩], sb_bs] at h
                exact h
              have HZn := Lib.hid (show M.length = 160 → R = none from fun h => by rw [HZ.out, if_neg (by simp [h])])
              have HZr := Lib.hid (show M.length ≠ 160 → R = tz (bs (X.extract Y.size X.size)) (M ++ [⟨1, bs Y⟩]) from fun h => by rw [HZ.out, if_pos ⟨hW, h⟩])
              have ey : ((Y.size : Int) == 0) = false := by rw [beq_eq_false_iff_ne]; omega
              clear hW HF0 HZ
              go_wp2_with fail
              refine (Hl.out _).mono ?_
              rintro e wq ⟨rfl, rfl⟩
              go_wp2_with fail
              refine (HF.out _).mono ?_
              rintro e w2 ⟨rfl, hb2⟩
              have HX2 := Lib.hid (below_blk hb2 (lt_of_block HX.out) HX.out)
              have Hown2 := Lib.hid (row_below Hown1.out hb2)
              have Hb2 := Lib.hid (below_nx Hb1.out hb2)
              clear hb2 s0 s1
              obtain ⟨s0, s1⟩ := blk_cells2 HX2.out
              have hxl2 := lt_of_block HX2.out
              by_cases h160 : M.length = 160
              · have HN := Lib.hid (HZn.out h160)
                have hlI : ((M.length : Int) == 160) = true := by simp; omega
                clear h160
                go_wp2_with fail
                go_step3
                exact ⟨rfl, _, _, _, _, _, _, _, _, _, _, _, _, _, _, _, _, _, _, _, _, _, _, _, _, _, _, _, _, _, _, _, _, _, _, _, _, _, _, _, _, _, _, rfl, HN, Hb2⟩
              · have Hz9 := Lib.hid (HZr.out h160)
                have hM9 : M.length + 1 ≤ 160 := by omega
                have hlI : ((M.length : Int) == 160) = false := by simp; omega
                have hs2 := Hb2.out.size
                have Hown3 := Lib.hid (Hown2.out.alloc (.cells #[.int .i64 1, .string Y] 31))
                have Hb3 := Lib.hid (Hb2.out.alloc hs2 (.cells #[.int .i64 1, .string Y] 31))
                have Hnew := Lib.hid (show tkE.Sl (w2.alloc (.cells #[.int .i64 1, .string Y] 31)) w2.heap.size (.slice (some ⟨w2.heap.size, 0, none⟩) 1 1) [⟨1, bs Y⟩] from Enc.Sl.mk rfl (Nat.le_refl _) (Nat.le_refl _) ⟨_, heap_alloc_new w2 _, by first | rfl | simp [tkE, Enc.flat, sb_bs]⟩)
                clear h160
                go_wp2_with (first
                  | (at_builtin; refine wpList_append_sl (E := tkE) rfl _ _ 24 rfl w.heap.size i0 (.agg #[.int .i64 0, .string ⟨#[]⟩]) 24 Try.underlying24 hi hz0 hz1 hz2 rfl (by decide) _ _ _ rfl Hown3.out w2.heap.size _ [⟨1, bs Y⟩] rfl Hnew.out ?d3 ?d4 ?d5 ?_))
                case d3 => unfold maxLen; simp; omega
                case d4 => simp; omega
                case d5 => simp; omega
                intro v' w4 hown' hgrow hat
                rw [← tkE.flat_app] at hown'
                have hown9 : w4.ownsRow w.heap.size 31 2 v' (M ++ [(⟨1, bs Y⟩ : Tk)]).length (tkE.flat (M ++ [(⟨1, bs Y⟩ : Tk)])) := by rw [List.length_append]; exact hown'
                have Hb4 := Lib.hid (Hb3.out.grown hgrow (by have := Hb3.out.size; omega) (fun q hq => by have := (Hown3.out.lt q hq).1; omega))
                have Hown4 := Lib.hid hown9
                clear hown' hown9 hgrow hat
                go_wp2_with fail
                go_roundg (X.extract Y.size X.size).size
                case measure => rw [ByteArray.size_extract]; omega
                case rel => exact ⟨X.extract Y.size X.size, _, rfl, by rw [ByteArray.size_extract]; omega, rfl, by simp; omega, Hz9, Hown4, Hb4⟩
          · rcases hx3 with h3 | h3 | h3
            · have Hmt := Lib.hid (tz_mk (r := (bs X).drop 1) (M := M) hsp hmk)
              have ht : t = ⟨2, []⟩ := by
                rw [h3] at hmk
                have e : mkT 59 = some ⟨2, []⟩ := rfl
                rw [e] at hmk
                injection hmk with hmk
                exact hmk.symm
              subst ht
              have h3' : X[0] = 59 := hxe.symm.trans h3
              have e3 : ((X[0].toNat : Int) == 59) = true := u8_eq h3'
              have HX := Lib.hid (heap_alloc_new wr (.cells #[.int .i64 2, .string ⟨#[]⟩] 31))
              have Hown1 := Lib.hid (Hown.out.alloc (.cells #[.int .i64 2, .string ⟨#[]⟩] 31))
              have Hb1 := Lib.hid (Hb.out.alloc hs (.cells #[.int .i64 2, .string ⟨#[]⟩] 31))
              have HF : Hid (∀ W, Calls Try.prog 14 #[.agg #[.int .i64 2, .string ⟨#[]⟩]] W fun e w' => e = .returned (.string ⟨#[59]⟩) ∧ Below W.heap.size W w') := Lib.hid (fun W => ifmtT 2 ⟨#[]⟩ W (by decide))
              have HZn := Lib.hid (show M.length = 160 → R = none from fun h => by rw [Hz1.out, Hmt.out, if_pos h])
              have HZr := Lib.hid (show M.length ≠ 160 → R = tz (bs (X.extract 1 X.size)) (M ++ [⟨2, []⟩]) from fun h => by rw [Hz1.out, Hmt.out, if_neg h, Hd1.out])
              obtain ⟨s0, s1⟩ := blk_cells2 HX.out
              have hxl := lt_of_block HX.out
              have h1I : (1 : Int) ≤ (X.size : Int) := by omega
              clear hmk hsp h3 h3' hxe
              go_wp2_with fail
              refine (Hl.out _).mono ?_
              rintro e wq ⟨rfl, rfl⟩
              go_wp2_with fail
              refine (HF.out _).mono ?_
              rintro e w2 ⟨rfl, hb2⟩
              have HX2 := Lib.hid (below_blk hb2 (lt_of_block HX.out) HX.out)
              have Hown2 := Lib.hid (row_below Hown1.out hb2)
              have Hb2 := Lib.hid (below_nx Hb1.out hb2)
              clear hb2 s0 s1
              obtain ⟨s0, s1⟩ := blk_cells2 HX2.out
              have hxl2 := lt_of_block HX2.out
              by_cases h160 : M.length = 160
              · have HN := Lib.hid (HZn.out h160)
                have hlI : ((M.length : Int) == 160) = true := by simp; omega
                clear h160
                go_wp2_with fail
                go_step3
                exact ⟨rfl, _, _, _, _, _, _, _, _, _, _, _, _, _, _, _, _, _, _, _, _, _, _, _, _, _, _, _, _, _, _, _, _, _, _, _, _, _, _, _, _, _, _, rfl, HN, Hb2⟩
              · have Hz9 := Lib.hid (HZr.out h160)
                have hM9 : M.length + 1 ≤ 160 := by omega
                have hlI : ((M.length : Int) == 160) = false := by simp; omega
                have hs2 := Hb2.out.size
                have Hown3 := Lib.hid (Hown2.out.alloc (.cells #[.int .i64 2, .string ⟨#[]⟩] 31))
                have Hb3 := Lib.hid (Hb2.out.alloc hs2 (.cells #[.int .i64 2, .string ⟨#[]⟩] 31))
                have Hnew := Lib.hid (show tkE.Sl (w2.alloc (.cells #[.int .i64 2, .string ⟨#[]⟩] 31)) w2.heap.size (.slice (some ⟨w2.heap.size, 0, none⟩) 1 1) [⟨2, []⟩] from Enc.Sl.mk rfl (Nat.le_refl _) (Nat.le_refl _) ⟨_, heap_alloc_new w2 _, by first | rfl | simp [tkE, Enc.flat, sb_bs]⟩)
                clear h160
                go_wp2_with (first
                  | (at_builtin; refine wpList_append_sl (E := tkE) rfl _ _ 24 rfl w.heap.size i0 (.agg #[.int .i64 0, .string ⟨#[]⟩]) 24 Try.underlying24 hi hz0 hz1 hz2 rfl (by decide) _ _ _ rfl Hown3.out w2.heap.size _ [⟨2, []⟩] rfl Hnew.out ?d3 ?d4 ?d5 ?_))
                case d3 => unfold maxLen; simp; omega
                case d4 => simp; omega
                case d5 => simp; omega
                intro v' w4 hown' hgrow hat
                rw [← tkE.flat_app] at hown'
                have hown9 : w4.ownsRow w.heap.size 31 2 v' (M ++ [(⟨2, []⟩ : Tk)]).length (tkE.flat (M ++ [(⟨2, []⟩ : Tk)])) := by rw [List.length_append]; exact hown'
                have Hb4 := Lib.hid (Hb3.out.grown hgrow (by have := Hb3.out.size; omega) (fun q hq => by have := (Hown3.out.lt q hq).1; omega))
                have Hown4 := Lib.hid hown9
                clear hown' hown9 hgrow hat
                go_wp2_with fail
                go_roundg (X.extract 1 X.size).size
                case measure => rw [ByteArray.size_extract]; omega
                case rel => exact ⟨X.extract 1 X.size, _, rfl, by rw [ByteArray.size_extract]; omega, rfl, by simp; omega, Hz9, Hown4, Hb4⟩
            · have Hmt := Lib.hid (tz_mk (r := (bs X).drop 1) (M := M) hsp hmk)
              have ht : t = ⟨3, []⟩ := by
                rw [h3] at hmk
                have e : mkT 123 = some ⟨3, []⟩ := rfl
                rw [e] at hmk
                injection hmk with hmk
                exact hmk.symm
              subst ht
              have h3' : X[0] = 123 := hxe.symm.trans h3
              have e3 : ((X[0].toNat : Int) == 59) = false := u8_ne (show X[0] ≠ 59 by rw [h3']; decide)
              have e4 : ((X[0].toNat : Int) == 123) = true := u8_eq h3'
              have HX := Lib.hid (heap_alloc_new wr (.cells #[.int .i64 3, .string ⟨#[]⟩] 31))
              have Hown1 := Lib.hid (Hown.out.alloc (.cells #[.int .i64 3, .string ⟨#[]⟩] 31))
              have Hb1 := Lib.hid (Hb.out.alloc hs (.cells #[.int .i64 3, .string ⟨#[]⟩] 31))
              have HF : Hid (∀ W, Calls Try.prog 14 #[.agg #[.int .i64 3, .string ⟨#[]⟩]] W fun e w' => e = .returned (.string ⟨#[123]⟩) ∧ Below W.heap.size W w') := Lib.hid (fun W => ifmtT 3 ⟨#[]⟩ W (by decide))
              have HZn := Lib.hid (show M.length = 160 → R = none from fun h => by rw [Hz1.out, Hmt.out, if_pos h])
              have HZr := Lib.hid (show M.length ≠ 160 → R = tz (bs (X.extract 1 X.size)) (M ++ [⟨3, []⟩]) from fun h => by rw [Hz1.out, Hmt.out, if_neg h, Hd1.out])
              obtain ⟨s0, s1⟩ := blk_cells2 HX.out
              have hxl := lt_of_block HX.out
              have h1I : (1 : Int) ≤ (X.size : Int) := by omega
              clear hmk hsp h3 h3' hxe
              go_wp2_with fail
              refine (Hl.out _).mono ?_
              rintro e wq ⟨rfl, rfl⟩
              go_wp2_with fail
              refine (HF.out _).mono ?_
              rintro e w2 ⟨rfl, hb2⟩
              have HX2 := Lib.hid (below_blk hb2 (lt_of_block HX.out) HX.out)
              have Hown2 := Lib.hid (row_below Hown1.out hb2)
              have Hb2 := Lib.hid (below_nx Hb1.out hb2)
              clear hb2 s0 s1
              obtain ⟨s0, s1⟩ := blk_cells2 HX2.out
              have hxl2 := lt_of_block HX2.out
              by_cases h160 : M.length = 160
              · have HN := Lib.hid (HZn.out h160)
                have hlI : ((M.length : Int) == 160) = true := by simp; omega
                clear h160
                go_wp2_with fail
                go_step3
                exact ⟨rfl, _, _, _, _, _, _, _, _, _, _, _, _, _, _, _, _, _, _, _, _, _, _, _, _, _, _, _, _, _, _, _, _, _, _, _, _, _, _, _, _, _, _, rfl, HN, Hb2⟩
              · have Hz9 := Lib.hid (HZr.out h160)
                have hM9 : M.length + 1 ≤ 160 := by omega
                have hlI : ((M.length : Int) == 160) = false := by simp; omega
                have hs2 := Hb2.out.size
                have Hown3 := Lib.hid (Hown2.out.alloc (.cells #[.int .i64 3, .string ⟨#[]⟩] 31))
                have Hb3 := Lib.hid (Hb2.out.alloc hs2 (.cells #[.int .i64 3, .string ⟨#[]⟩] 31))
                have Hnew := Lib.hid (show tkE.Sl (w2.alloc (.cells #[.int .i64 3, .string ⟨#[]⟩] 31)) w2.heap.size (.slice (some ⟨w2.heap.size, 0, none⟩) 1 1) [⟨3, []⟩] from Enc.Sl.mk rfl (Nat.le_refl _) (Nat.le_refl _) ⟨_, heap_alloc_new w2 _, by first | rfl | simp [tkE, Enc.flat, sb_bs]⟩)
                clear h160
                go_wp2_with (first
                  | (at_builtin; refine wpList_append_sl (E := tkE) rfl _ _ 24 rfl w.heap.size i0 (.agg #[.int .i64 0, .string ⟨#[]⟩]) 24 Try.underlying24 hi hz0 hz1 hz2 rfl (by decide) _ _ _ rfl Hown3.out w2.heap.size _ [⟨3, []⟩] rfl Hnew.out ?d3 ?d4 ?d5 ?_))
                case d3 => unfold maxLen; simp; omega
                case d4 => simp; omega
                case d5 => simp; omega
                intro v' w4 hown' hgrow hat
                rw [← tkE.flat_app] at hown'
                have hown9 : w4.ownsRow w.heap.size 31 2 v' (M ++ [(⟨3, []⟩ : Tk)]).length (tkE.flat (M ++ [(⟨3, []⟩ : Tk)])) := by rw [List.length_append]; exact hown'
                have Hb4 := Lib.hid (Hb3.out.grown hgrow (by have := Hb3.out.size; omega) (fun q hq => by have := (Hown3.out.lt q hq).1; omega))
                have Hown4 := Lib.hid hown9
                clear hown' hown9 hgrow hat
                go_wp2_with fail
                go_roundg (X.extract 1 X.size).size
                case measure => rw [ByteArray.size_extract]; omega
                case rel => exact ⟨X.extract 1 X.size, _, rfl, by rw [ByteArray.size_extract]; omega, rfl, by simp; omega, Hz9, Hown4, Hb4⟩
            · have Hmt := Lib.hid (tz_mk (r := (bs X).drop 1) (M := M) hsp hmk)
              have ht : t = ⟨4, []⟩ := by
                rw [h3] at hmk
                have e : mkT 125 = some ⟨4, []⟩ := rfl
                rw [e] at hmk
                injection hmk with hmk
                exact hmk.symm
              subst ht
              have h3' : X[0] = 125 := hxe.symm.trans h3
              have e3 : ((X[0].toNat : Int) == 59) = false := u8_ne (show X[0] ≠ 59 by rw [h3']; decide)
              have e4 : ((X[0].toNat : Int) == 123) = false := u8_ne (show X[0] ≠ 123 by rw [h3']; decide)
              have e5 : ((X[0].toNat : Int) == 125) = true := u8_eq h3'
              have HX := Lib.hid (heap_alloc_new wr (.cells #[.int .i64 4, .string ⟨#[]⟩] 31))
              have Hown1 := Lib.hid (Hown.out.alloc (.cells #[.int .i64 4, .string ⟨#[]⟩] 31))
              have Hb1 := Lib.hid (Hb.out.alloc hs (.cells #[.int .i64 4, .string ⟨#[]⟩] 31))
              have HF : Hid (∀ W, Calls Try.prog 14 #[.agg #[.int .i64 4, .string ⟨#[]⟩]] W fun e w' => e = .returned (.string ⟨#[125]⟩) ∧ Below W.heap.size W w') := Lib.hid (fun W => ifmtT 4 ⟨#[]⟩ W (by decide))
              have HZn := Lib.hid (show M.length = 160 → R = none from fun h => by rw [Hz1.out, Hmt.out, if_pos h])
              have HZr := Lib.hid (show M.length ≠ 160 → R = tz (bs (X.extract 1 X.size)) (M ++ [⟨4, []⟩]) from fun h => by rw [Hz1.out, Hmt.out, if_neg h, Hd1.out])
              obtain ⟨s0, s1⟩ := blk_cells2 HX.out
              have hxl := lt_of_block HX.out
              have h1I : (1 : Int) ≤ (X.size : Int) := by omega
              clear hmk hsp h3 h3' hxe
              go_wp2_with fail
              refine (Hl.out _).mono ?_
              rintro e wq ⟨rfl, rfl⟩
              go_wp2_with fail
              refine (HF.out _).mono ?_
              rintro e w2 ⟨rfl, hb2⟩
              have HX2 := Lib.hid (below_blk hb2 (lt_of_block HX.out) HX.out)
              have Hown2 := Lib.hid (row_below Hown1.out hb2)
              have Hb2 := Lib.hid (below_nx Hb1.out hb2)
              clear hb2 s0 s1
              obtain ⟨s0, s1⟩ := blk_cells2 HX2.out
              have hxl2 := lt_of_block HX2.out
              by_cases h160 : M.length = 160
              · have HN := Lib.hid (HZn.out h160)
                have hlI : ((M.length : Int) == 160) = true := by simp; omega
                clear h160
                go_wp2_with fail
                go_step3
                exact ⟨rfl, _, _, _, _, _, _, _, _, _, _, _, _, _, _, _, _, _, _, _, _, _, _, _, _, _, _, _, _, _, _, _, _, _, _, _, _, _, _, _, _, _, _, rfl, HN, Hb2⟩
              · have Hz9 := Lib.hid (HZr.out h160)
                have hM9 : M.length + 1 ≤ 160 := by omega
                have hlI : ((M.length : Int) == 160) = false := by simp; omega
                have hs2 := Hb2.out.size
                have Hown3 := Lib.hid (Hown2.out.alloc (.cells #[.int .i64 4, .string ⟨#[]⟩] 31))
                have Hb3 := Lib.hid (Hb2.out.alloc hs2 (.cells #[.int .i64 4, .string ⟨#[]⟩] 31))
                have Hnew := Lib.hid (show tkE.Sl (w2.alloc (.cells #[.int .i64 4, .string ⟨#[]⟩] 31)) w2.heap.size (.slice (some ⟨w2.heap.size, 0, none⟩) 1 1) [⟨4, []⟩] from Enc.Sl.mk rfl (Nat.le_refl _) (Nat.le_refl _) ⟨_, heap_alloc_new w2 _, by first | rfl | simp [tkE, Enc.flat, sb_bs]⟩)
                clear h160
                go_wp2_with (first
                  | (at_builtin; refine wpList_append_sl (E := tkE) rfl _ _ 24 rfl w.heap.size i0 (.agg #[.int .i64 0, .string ⟨#[]⟩]) 24 Try.underlying24 hi hz0 hz1 hz2 rfl (by decide) _ _ _ rfl Hown3.out w2.heap.size _ [⟨4, []⟩] rfl Hnew.out ?d3 ?d4 ?d5 ?_))
                case d3 => unfold maxLen; simp; omega
                case d4 => simp; omega
                case d5 => simp; omega
                intro v' w4 hown' hgrow hat
                rw [← tkE.flat_app] at hown'
                have hown9 : w4.ownsRow w.heap.size 31 2 v' (M ++ [(⟨4, []⟩ : Tk)]).length (tkE.flat (M ++ [(⟨4, []⟩ : Tk)])) := by rw [List.length_append]; exact hown'
                have Hb4 := Lib.hid (Hb3.out.grown hgrow (by have := Hb3.out.size; omega) (fun q hq => by have := (Hown3.out.lt q hq).1; omega))
                have Hown4 := Lib.hid hown9
                clear hown' hown9 hgrow hat
                go_wp2_with fail
                go_roundg (X.extract 1 X.size).size
                case measure => rw [ByteArray.size_extract]; omega
                case rel => exact ⟨X.extract 1 X.size, _, rfl, by rw [ByteArray.size_extract]; omega, rfl, by simp; omega, Hz9, Hown4, Hb4⟩
  · rintro a' w' ⟨u4, u5, u6, u7, u9, u10, u11, u12, u13, u14, u15, u16, u17, u18, u19, u20, u21, u22, u23, u24, u25, u26, u27, u28, u29, u30, u31, u32, u33, u34, u35, u36, u37, u38, u39, u40, u41, u42, u43, u44, u45, u46, rfl, HN, Hb⟩
    obtain rfl := HN.out
    go_wp2_with fail
    simp only [Exit.jump]
    go_returns
    exact ⟨_, rfl, Enc.Sl.nil, Hb.out⟩
end Go.Proofs.Ytgicldokglpimaa
