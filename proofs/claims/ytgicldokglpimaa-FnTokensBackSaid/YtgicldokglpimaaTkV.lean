/- The model's Tokenize. -/
import Derived.Test.YtgicldokglpimaaTkW
namespace Go.Proofs.Ytgicldokglpimaa
open Go.RowKit
theorem u8_eq {x : UInt8} {c : UInt8} (h : x = c) : ((x.toNat : Int) == (c.toNat : Int)) = true := by subst h; simp
theorem mkT_cases (x : UInt8) : mkT x = none ∨ ∃ t, mkT x = some t ∧ (x = 59 ∨ x = 123 ∨ x = 125) := by
  unfold mkT
  by_cases h1 : x = 59
  · exact .inr ⟨_, if_pos h1, .inl h1⟩
  · by_cases h2 : x = 123
    · exact .inr ⟨_, by rw [if_neg h1, if_pos h2], .inr (.inl h2)⟩
    · by_cases h3 : x = 125
      · exact .inr ⟨_, by rw [if_neg h1, if_neg h2, if_pos h3], .inr (.inr h3)⟩
      · exact .inl (by rw [if_neg h1, if_neg h2, if_neg h3])
theorem own_shape {w : World} {base : Nat} {e : TypeId} {size : Nat} {v : Value} {n : Nat} {xs : List Value} (h : w.ownsRow base e size v n xs) : ∃ p c, v = .slice p n c := by
  rcases h.2 with ⟨h, h'⟩ | ⟨g, cap, cur, h, _⟩
  · exact ⟨none, 0, by rw [h', h]⟩
  · exact ⟨_, _, h⟩
attribute [local irreducible] World.cell?
set_option maxRecDepth 100000 in
set_option maxHeartbeats 12800000 in
theorem stok (T : ByteArray) (w : World) (hm : T.size ≤ 1073741824) :
    Calls Try.prog 17 #[.string T] w fun e w' => ∃ r, e = .returned (.tuple #[r, .bool (tz (bs T) []).isSome]) ∧ tkE.Sl w' w.heap.size r ((tz (bs T) []).getD []) ∧ Below w.heap.size w w' := by
  obtain ⟨i0, hi, hz0, hz1, hz2⟩ := info_parts infoTk
  obtain ⟨R, hR⟩ : ∃ R, R = tz (bs T) [] := ⟨_, rfl⟩
  rw [← hR]
  have HR := Lib.hid hR
  clear hR
  go_enter Try.func17, Try.ntmps17
  go_wp2_with fail
  go_loopg [4, 5] T.size (fun m o i wr => ∃ (j : Nat) (M : List Tk), m = T.size - j ∧ j ≤ T.size ∧ i = .int .i64 j ∧ M.length ≤ 160 ∧ Hid (R = tz ((bs T).drop j) M) ∧ Hid (wr.ownsRow w.heap.size 31 2 o M.length (tkE.flat M)) ∧ Hid (Below w.heap.size w wr))
  case atStart => exact ⟨0, [], rfl, Nat.zero_le _, rfl, Nat.zero_le _, Lib.hid HR.out, Lib.hid (World.ownsRow_lit w #[] 0 (Nat.le_refl _) (Nat.zero_le _) rfl), Lib.hid (by go_grown)⟩
  case round =>
    obtain ⟨j, M, rfl, hj, rfl, hM, Hz, Hown, Hb⟩ := hrel
    obtain ⟨wo, hwo⟩ : ∃ wo, wo = wr := ⟨wr, rfl⟩
    subst hwo
    have hs := Hb.out.size
    by_cases hlt : j < T.size
    · have hx := bs_at hlt
      have hd := drop_at hx
      have Hz1 := Lib.hid (show R = tz (T[j] :: (bs T).drop (j + 1)) M from Hz.out.trans (congrArg (fun l => tz l M) hd))
      obtain ⟨x, hxe⟩ : ∃ x, x = T[j] := ⟨_, rfl⟩
      have Hxe := Lib.hid hxe
      rw [← hxe] at hd Hz1
      have Hd := Lib.hid hd
      clear hx hd
      by_cases hsp : x = 32 ∨ x = 10
      · have Hz2 := Lib.hid (show R = tz ((bs T).drop (j + 1)) M from Hz1.out.trans (tz_skip hsp))
        rw [hxe] at hsp
        have Hsp := Lib.hid hsp
        clear hsp
        by_cases h32 : T[j] = 32
        · have e1 : ((T[j].toNat : Int) == 32) = true := u8_eq h32
          clear h32 hxe
          go_wp2_with fail
          go_roundg (T.size - (j + 1))
          case measure => omega
          case rel => exact ⟨j + 1, M, rfl, by omega, by go_num, hM, Hz2, Hown, Hb⟩
        · have e1 : ((T[j].toNat : Int) == 32) = false := u8_ne h32
          have e2 : ((T[j].toNat : Int) == 10) = true := u8_eq (by rcases Hsp.out with h | h; exact absurd h h32; exact h)
          clear h32 hxe
          go_wp2_with fail
          go_roundg (T.size - (j + 1))
          case measure => omega
          case rel => exact ⟨j + 1, M, rfl, by omega, by go_num, hM, Hz2, Hown, Hb⟩
      · have e1 : ((T[j].toNat : Int) == 32) = false := u8_ne (fun h => hsp (.inl (hxe.trans h)))
        have e2 : ((T[j].toNat : Int) == 10) = false := u8_ne (fun h => hsp (.inr (hxe.trans h)))
        have Hmk := Lib.hid (fun W => smark T[j] W)
        obtain ⟨po0, co0, rfl⟩ := own_shape Hown.out
        have hsp' : ¬ (x = 32 ∨ x = 10) := hsp
        clear hsp
        rcases mkT_cases x with hmk | ⟨t, hmk, hx3⟩
        · have Hwd := Lib.hid (tz_wd (r := (bs T).drop (j + 1)) (M := M) hsp' hmk)
          rw [show mkK T[j] = 0 from hxe ▸ (mkK_mk x).2 hmk] at Hmk
          have HX := Lib.hid (heap_alloc_new wo (.cells #[.int .i64 0, .string ⟨#[]⟩] 31))
          have HownA := Lib.hid (Hown.out.alloc (.cells #[.int .i64 0, .string ⟨#[]⟩] 31))
          have HbA := Lib.hid (Hb.out.alloc hs (.cells #[.int .i64 0, .string ⟨#[]⟩] 31))
          obtain ⟨c0, c1⟩ := blk_cells2 HX.out
          have hxl := lt_of_block HX.out
          clear hmk hsp' hxe
          go_wp2_with fail
          refine (Hmk.out _).mono ?_
          rintro e wq ⟨rfl, rfl⟩
          go_wp2_with fail
          go_loopg [7] (T.size - j) (fun m kk wi => ∃ k : Nat, m = T.size - k ∧ j ≤ k ∧ k ≤ T.size ∧ kk = .int .i64 k ∧ Hid ((((bs T).drop j).take (k - j)).all isL = true) ∧ wo.alloc (.cells #[.int .i64 0, .string ⟨#[]⟩] 31) = wi)
          case atStart => exact ⟨j, rfl, Nat.le_refl _, hj, rfl, Lib.hid (by rw [Nat.sub_self]; rfl), rfl⟩
          case round =>
            obtain ⟨k, rfl, hjk, hkT, rfl, Hall, rfl⟩ := hrel
            by_cases hkl : k < T.size
            · have hxk := bs_at hkl
              have hdk : ((bs T).drop j)[k - j]? = some T[k] := by rw [List.getElem?_drop, show j + (k - j) = k by omega]; exact hxk
              have Hlt := Lib.hid (fun W => sletter T[k] W)
              have Hat := Lib.hid (all_takeB (p := isL) hdk Hall.out)
              have Hhd := Lib.hid (show ∀ y, ((bs T).drop k).head? = some y → y = T[k] from fun y hy => by
                rw [drop_at hxk] at hy
                simpa using hy.symm)
              clear hxk hdk
              cases hl : isL T[k] with
              | true =>
                rw [hl] at Hlt Hat
                clear hl
                go_wp2_with fail
                refine (Hlt.out _).mono ?_
                rintro e wq ⟨rfl, rfl⟩
                go_wp2_with fail
                go_roundg (T.size - (k + 1))
                case measure => omega
                case rel => exact ⟨k + 1, rfl, by omega, by omega, by go_num, Lib.hid (by rw [show k + 1 - j = k - j + 1 by omega]; exact Hat.out), by first | trivial | rfl⟩
              | false =>
                have hst : ∀ y, ((bs T).drop k).head? = some y → isL y = false := fun y hy => by rw [Hhd.out y hy]; exact hl
                rw [hl] at Hlt
                clear hl Hat Hhd
                have hKe := scan_end (L := bs T) (i := j) (k := k) hjk (by rw [bs_len]; exact hkT) Hall.out hst
                rw [Hd.out] at hKe
                have hbe : bs (T.extract j k) = ((bs T).drop j).take (k - j) := bs_ext
                rw [Hd.out] at hbe
                have hZ : R = if wordB (bs (T.extract j k)) = true ∧ M.length ≠ 160 then tz ((bs T).drop k) (M ++ [⟨1, bs (T.extract j k)⟩]) else none := by
                  rw [Hz1.out, Hwd.out, hKe.1, hKe.2, hbe]
                have HZ := Lib.hid hZ
                have hTs : (T.extract j k).size ≤ 1073741824 := by rw [ByteArray.size_extract]; omega
                have hF := Lib.hid (fun W => sfmtT 1 (T.extract j k) W hTs)
                have hjkI : (j : Int) ≤ (k : Int) := by omega
                have hkI : (k : Int) ≤ (T.size : Int) := by omega
                have hbl : (T.extract j k).size = k - j := by rw [ByteArray.size_extract]; omega
                have HXs := Lib.hid (heap_alloc_new wo (.cells #[.int .i64 1, .string (T.extract j k)] 31))
                have Hown1 := Lib.hid (Hown.out.alloc (.cells #[.int .i64 1, .string (T.extract j k)] 31))
                have Hb1 := Lib.hid (Hb.out.alloc hs (.cells #[.int .i64 1, .string (T.extract j k)] 31))
                obtain ⟨s0, s1⟩ := blk_cells2 HXs.out
                have fX := fun o => free_at HX.out o
                clear hKe hbe hZ hTs hst
                generalize hTT : T.extract j k = TT at *
                cases hW : wordB (bs TT) with
                | false =>
                  have hN : R = none := by rw [HZ.out, hW]; rfl
                  obtain rfl := hN
                  rw [tkT_no (T := TT) (k := 1) (by simp [hW]) (.inr (by omega))] at hF
                  have hF' : Hid (∀ W, Calls Try.prog 24 #[.agg #[.int .i64 1, .string TT]] W fun e w' => e = .returned (.string ⟨#[]⟩) ∧ Below W.heap.size W w') := hF
                  clear hW hF
                  go_wp2_with fail
                  refine (Hlt.out _).mono ?_
                  rintro e wq ⟨rfl, rfl⟩
                  go_wp2_with fail
                  refine (hF'.out _).mono ?_
                  rintro e w2 ⟨rfl, hb2⟩
                  have Hb2 := Lib.hid (below_nx Hb1.out hb2)
                  have hs2 := Hb2.out.size
                  clear hb2
                  go_wp2_with fail
                  go_returns
                  exact ⟨_, rfl, Enc.Sl.nil, Hb2.out.alloc hs2 _⟩
                | true =>
                  have h1 := (wordB_all hW).2.1
                  rw [bs_len, hbl] at h1
                  have hne : TT ≠ ⟨#[]⟩ := fun e => by rw [e] at hbl; have : (ByteArray.mk #[]).size = 0 := rfl; omega
                  obtain ⟨-, n2, n3, n4⟩ := bs_nil hne
                  rw [show tkT ⟨1, bs TT⟩ = bs TT by unfold tkT; rw [if_pos ⟨rfl, hW⟩], sb_bs] at hF
                  have HZn := Lib.hid (show M.length = 160 → R = none from fun h => by rw [HZ.out, if_neg (by simp [h])])
                  have HZr := Lib.hid (show M.length ≠ 160 → R = tz ((bs T).drop k) (M ++ [⟨1, bs TT⟩]) from fun h => by rw [HZ.out, if_pos ⟨hW, h⟩])
                  clear hW hne
                  go_wp2_with fail
                  refine (Hlt.out _).mono ?_
                  rintro e wq ⟨rfl, rfl⟩
                  go_wp2_with fail
                  refine (hF.out _).mono ?_
                  rintro e w2 ⟨rfl, hb2⟩
                  have HX2 := Lib.hid (below_blk hb2 (lt_of_block HXs.out) HXs.out)
                  have Hown2 := Lib.hid (row_below Hown1.out hb2)
                  have Hb2 := Lib.hid (below_nx Hb1.out hb2)
                  clear hb2 s0 s1
                  obtain ⟨s0, s1⟩ := blk_cells2 HX2.out
                  have hxl2 := lt_of_block HX2.out
                  by_cases h160 : M.length = 160
                  · obtain rfl := HZn.out h160
                    have hlI : ((M.length : Int) == 160) = true := by simp; omega
                    have hs2 := Hb2.out.size
                    clear h160
                    go_wp2_with fail
                    go_returns
                    exact ⟨_, rfl, Enc.Sl.nil, Hb2.out.alloc hs2 _⟩
                  · have Hz9 := Lib.hid (HZr.out h160)
                    have hM9 : M.length + 1 ≤ 160 := by omega
                    have hlI : ((M.length : Int) == 160) = false := by simp; omega
                    have hs2 := Hb2.out.size
                    have Hown3 := Lib.hid (Hown2.out.alloc (.cells #[.int .i64 1, .string TT] 31))
                    have Hb3 := Lib.hid (Hb2.out.alloc hs2 (.cells #[.int .i64 1, .string TT] 31))
                    have Hnew := Lib.hid (show tkE.Sl (w2.alloc (.cells #[.int .i64 1, .string TT] 31)) w2.heap.size (.slice (some ⟨w2.heap.size, 0, none⟩) 1 1) [⟨1, bs TT⟩] from Enc.Sl.mk rfl (Nat.le_refl _) (Nat.le_refl _) ⟨_, heap_alloc_new w2 _, by first | rfl | simp [tkE, Enc.flat, sb_bs]⟩)
                    clear h160
                    go_wp2_with (first
                      | (at_builtin; refine wpList_append_sl (E := tkE) rfl _ _ 24 rfl w.heap.size i0 (.agg #[.int .i64 0, .string ⟨#[]⟩]) 24 Try.underlying24 hi hz0 hz1 hz2 rfl (by decide) _ _ _ rfl Hown3.out w2.heap.size _ [⟨1, bs TT⟩] rfl Hnew.out ?d3 ?d4 ?d5 ?_))
                    case d3 => unfold maxLen; simp; omega
                    case d4 => simp; omega
                    case d5 => simp; omega
                    intro v' w4 hown' hgrow hat
                    rw [← tkE.flat_app] at hown'
                    have hown9 : w4.ownsRow w.heap.size 31 2 v' (M ++ [(⟨1, bs TT⟩ : Tk)]).length (tkE.flat (M ++ [(⟨1, bs TT⟩ : Tk)])) := by rw [List.length_append]; exact hown'
                    have Hb4 := Lib.hid (Hb3.out.grown hgrow (by have := Hb3.out.size; omega) (fun q hq => by have := (Hown3.out.lt q hq).1; omega))
                    have Hown4 := Lib.hid hown9
                    clear hown' hown9 hgrow hat
                    go_wp2_with fail
                    go_roundg (T.size - (k))
                    case measure => omega
                    case rel => exact ⟨k, _, rfl, by omega, by go_num, by simp; omega, Hz9, Hown4, Hb4⟩
            · have hst : ∀ y, ((bs T).drop k).head? = some y → isL y = false := fun y hy => by
                rw [List.drop_of_length_le (by rw [bs_len]; omega)] at hy
                cases hy
              have hKe := scan_end (L := bs T) (i := j) (k := k) hjk (by rw [bs_len]; exact hkT) Hall.out hst
              rw [Hd.out] at hKe
              have hbe : bs (T.extract j k) = ((bs T).drop j).take (k - j) := bs_ext
              rw [Hd.out] at hbe
              have hZ : R = if wordB (bs (T.extract j k)) = true ∧ M.length ≠ 160 then tz ((bs T).drop k) (M ++ [⟨1, bs (T.extract j k)⟩]) else none := by
                rw [Hz1.out, Hwd.out, hKe.1, hKe.2, hbe]
              have HZ := Lib.hid hZ
              have hTs : (T.extract j k).size ≤ 1073741824 := by rw [ByteArray.size_extract]; omega
              have hF := Lib.hid (fun W => sfmtT 1 (T.extract j k) W hTs)
              have hjkI : (j : Int) ≤ (k : Int) := by omega
              have hkI : (k : Int) ≤ (T.size : Int) := by omega
              have hbl : (T.extract j k).size = k - j := by rw [ByteArray.size_extract]; omega
              have HXs := Lib.hid (heap_alloc_new wo (.cells #[.int .i64 1, .string (T.extract j k)] 31))
              have Hown1 := Lib.hid (Hown.out.alloc (.cells #[.int .i64 1, .string (T.extract j k)] 31))
              have Hb1 := Lib.hid (Hb.out.alloc hs (.cells #[.int .i64 1, .string (T.extract j k)] 31))
              obtain ⟨s0, s1⟩ := blk_cells2 HXs.out
              have fX := fun o => free_at HX.out o
              clear hKe hbe hZ hTs hst
              generalize hTT : T.extract j k = TT at *
              cases hW : wordB (bs TT) with
              | false =>
                have hN : R = none := by rw [HZ.out, hW]; rfl
                obtain rfl := hN
                rw [tkT_no (T := TT) (k := 1) (by simp [hW]) (.inr (by omega))] at hF
                have hF' : Hid (∀ W, Calls Try.prog 24 #[.agg #[.int .i64 1, .string TT]] W fun e w' => e = .returned (.string ⟨#[]⟩) ∧ Below W.heap.size W w') := hF
                clear hW hF
                go_wp2_with fail
                refine (hF'.out _).mono ?_
                rintro e w2 ⟨rfl, hb2⟩
                have Hb2 := Lib.hid (below_nx Hb1.out hb2)
                have hs2 := Hb2.out.size
                clear hb2
                go_wp2_with fail
                go_returns
                exact ⟨_, rfl, Enc.Sl.nil, Hb2.out.alloc hs2 _⟩
              | true =>
                have h1 := (wordB_all hW).2.1
                rw [bs_len, hbl] at h1
                have hne : TT ≠ ⟨#[]⟩ := fun e => by rw [e] at hbl; have : (ByteArray.mk #[]).size = 0 := rfl; omega
                obtain ⟨-, n2, n3, n4⟩ := bs_nil hne
                rw [show tkT ⟨1, bs TT⟩ = bs TT by unfold tkT; rw [if_pos ⟨rfl, hW⟩], sb_bs] at hF
                have HZn := Lib.hid (show M.length = 160 → R = none from fun h => by rw [HZ.out, if_neg (by simp [h])])
                have HZr := Lib.hid (show M.length ≠ 160 → R = tz ((bs T).drop k) (M ++ [⟨1, bs TT⟩]) from fun h => by rw [HZ.out, if_pos ⟨hW, h⟩])
                clear hW hne
                go_wp2_with fail
                refine (hF.out _).mono ?_
                rintro e w2 ⟨rfl, hb2⟩
                have HX2 := Lib.hid (below_blk hb2 (lt_of_block HXs.out) HXs.out)
                have Hown2 := Lib.hid (row_below Hown1.out hb2)
                have Hb2 := Lib.hid (below_nx Hb1.out hb2)
                clear hb2 s0 s1
                obtain ⟨s0, s1⟩ := blk_cells2 HX2.out
                have hxl2 := lt_of_block HX2.out
                by_cases h160 : M.length = 160
                · obtain rfl := HZn.out h160
                  have hlI : ((M.length : Int) == 160) = true := by simp; omega
                  have hs2 := Hb2.out.size
                  clear h160
                  go_wp2_with fail
                  go_returns
                  exact ⟨_, rfl, Enc.Sl.nil, Hb2.out.alloc hs2 _⟩
                · have Hz9 := Lib.hid (HZr.out h160)
                  have hM9 : M.length + 1 ≤ 160 := by omega
                  have hlI : ((M.length : Int) == 160) = false := by simp; omega
                  have hs2 := Hb2.out.size
                  have Hown3 := Lib.hid (Hown2.out.alloc (.cells #[.int .i64 1, .string TT] 31))
                  have Hb3 := Lib.hid (Hb2.out.alloc hs2 (.cells #[.int .i64 1, .string TT] 31))
                  have Hnew := Lib.hid (show tkE.Sl (w2.alloc (.cells #[.int .i64 1, .string TT] 31)) w2.heap.size (.slice (some ⟨w2.heap.size, 0, none⟩) 1 1) [⟨1, bs TT⟩] from Enc.Sl.mk rfl (Nat.le_refl _) (Nat.le_refl _) ⟨_, heap_alloc_new w2 _, by first | rfl | simp [tkE, Enc.flat, sb_bs]⟩)
                  clear h160
                  go_wp2_with (first
                    | (at_builtin; refine wpList_append_sl (E := tkE) rfl _ _ 24 rfl w.heap.size i0 (.agg #[.int .i64 0, .string ⟨#[]⟩]) 24 Try.underlying24 hi hz0 hz1 hz2 rfl (by decide) _ _ _ rfl Hown3.out w2.heap.size _ [⟨1, bs TT⟩] rfl Hnew.out ?d3 ?d4 ?d5 ?_))
                  case d3 => unfold maxLen; simp; omega
                  case d4 => simp; omega
                  case d5 => simp; omega
                  intro v' w4 hown' hgrow hat
                  rw [← tkE.flat_app] at hown'
                  have hown9 : w4.ownsRow w.heap.size 31 2 v' (M ++ [(⟨1, bs TT⟩ : Tk)]).length (tkE.flat (M ++ [(⟨1, bs TT⟩ : Tk)])) := by rw [List.length_append]; exact hown'
                  have Hb4 := Lib.hid (Hb3.out.grown hgrow (by have := Hb3.out.size; omega) (fun q hq => by have := (Hown3.out.lt q hq).1; omega))
                  have Hown4 := Lib.hid hown9
                  clear hown' hown9 hgrow hat
                  go_wp2_with fail
                  go_roundg (T.size - (k))
                  case measure => omega
                  case rel => exact ⟨k, _, rfl, by omega, by go_num, by simp; omega, Hz9, Hown4, Hb4⟩
        · rcases hx3 with h3 | h3 | h3
          · have Hmt := Lib.hid (tz_mk (r := (bs T).drop (j + 1)) (M := M) hsp' hmk)
            have ht : t = ⟨2, []⟩ := by
              rw [h3] at hmk
              have e : mkT 59 = some ⟨2, []⟩ := rfl
              rw [e] at hmk
              injection hmk with hmk
              exact hmk.symm
            rw [show mkK T[j] = 2 from hxe ▸ (by rw [h3]; rfl : mkK x = 2)] at Hmk
            subst ht
            have HX := Lib.hid (heap_alloc_new wo (.cells #[.int .i64 2, .string ⟨#[]⟩] 31))
            have Hown1 := Lib.hid (Hown.out.alloc (.cells #[.int .i64 2, .string ⟨#[]⟩] 31))
            have Hb1 := Lib.hid (Hb.out.alloc hs (.cells #[.int .i64 2, .string ⟨#[]⟩] 31))
            have HF : Hid (∀ W, Calls Try.prog 24 #[.agg #[.int .i64 2, .string ⟨#[]⟩]] W fun e w' => e = .returned (.string ⟨#[59]⟩) ∧ Below W.heap.size W w') := Lib.hid (fun W => sfmtT 2 ⟨#[]⟩ W (by decide))
            have HZn := Lib.hid (show M.length = 160 → R = none from fun h => by rw [Hz1.out, Hmt.out, if_pos h])
            have HZr := Lib.hid (show M.length ≠ 160 → R = tz ((bs T).drop (j + 1)) (M ++ [⟨2, []⟩]) from fun h => by rw [Hz1.out, Hmt.out, if_neg h])
            obtain ⟨s0, s1⟩ := blk_cells2 HX.out
            have hxl := lt_of_block HX.out
            clear hmk hsp' h3 hxe
            go_wp2_with fail
            refine (Hmk.out _).mono ?_
            rintro e wq ⟨rfl, rfl⟩
            go_wp2_with fail
            refine (HF.out _).mono ?_
            rintro e w2 ⟨rfl, hb2⟩
            have HX2 := Lib.hid (below_blk hb2 (lt_of_block HX.out) HX.out)
            have Hown2 := Lib.hid (row_below Hown1.out hb2)
            have Hb2 := Lib.hid (below_nx Hb1.out hb2)
            clear hb2 s0 s1 hxl
            obtain ⟨s0, s1⟩ := blk_cells2 HX2.out
            have hxl2 := lt_of_block HX2.out
            by_cases h160 : M.length = 160
            · obtain rfl := HZn.out h160
              have hlI : ((M.length : Int) == 160) = true := by simp; omega
              have hs2 := Hb2.out.size
              clear h160
              go_wp2_with fail
              go_returns
              exact ⟨_, rfl, Enc.Sl.nil, Hb2.out.alloc hs2 _⟩
            · have Hz9 := Lib.hid (HZr.out h160)
              have hM9 : M.length + 1 ≤ 160 := by omega
              have hlI : ((M.length : Int) == 160) = false := by simp; omega
              have hs2 := Hb2.out.size
              have Hown3 := Lib.hid (Hown2.out.alloc (.cells #[.int .i64 2, .string ⟨#[]⟩] 31))
              have Hb3 := Lib.hid (Hb2.out.alloc hs2 (.cells #[.int .i64 2, .string ⟨#[]⟩] 31))
              have Hnew := Lib.hid (show tkE.Sl (w2.alloc (.cells #[.int .i64 2, .string ⟨#[]⟩] 31)) w2.heap.size (.slice (some ⟨w2.heap.size, 0, none⟩) 1 1) [⟨2, []⟩] from Enc.Sl.mk rfl (Nat.le_refl _) (Nat.le_refl _) ⟨_, heap_alloc_new w2 _, by first | rfl | simp [tkE, Enc.flat, sb_bs]⟩)
              clear h160
              go_wp2_with (first
                | (at_builtin; refine wpList_append_sl (E := tkE) rfl _ _ 24 rfl w.heap.size i0 (.agg #[.int .i64 0, .string ⟨#[]⟩]) 24 Try.underlying24 hi hz0 hz1 hz2 rfl (by decide) _ _ _ rfl Hown3.out w2.heap.size _ [⟨2, []⟩] rfl Hnew.out ?d3 ?d4 ?d5 ?_))
              case d3 => unfold maxLen; simp; omega
              case d4 => simp; omega
              case d5 => simp; omega
              intro v' w4 hown' hgrow hat
              rw [← tkE.flat_app] at hown'
              have hown9 : w4.ownsRow w.heap.size 31 2 v' (M ++ [(⟨2, []⟩ : Tk)]).length (tkE.flat (M ++ [(⟨2, []⟩ : Tk)])) := by rw [List.length_append]; exact hown'
              have Hb4 := Lib.hid (Hb3.out.grown hgrow (by have := Hb3.out.size; omega) (fun q hq => by have := (Hown3.out.lt q hq).1; omega))
              have Hown4 := Lib.hid hown9
              clear hown' hown9 hgrow hat
              go_wp2_with fail
              go_roundg (T.size - (j + 1))
              case measure => omega
              case rel => exact ⟨j + 1, _, rfl, by omega, by go_num, by simp; omega, Hz9, Hown4, Hb4⟩
          · have Hmt := Lib.hid (tz_mk (r := (bs T).drop (j + 1)) (M := M) hsp' hmk)
            have ht : t = ⟨3, []⟩ := by
              rw [h3] at hmk
              have e : mkT 123 = some ⟨3, []⟩ := rfl
              rw [e] at hmk
              injection hmk with hmk
              exact hmk.symm
            rw [show mkK T[j] = 3 from hxe ▸ (by rw [h3]; rfl : mkK x = 3)] at Hmk
            subst ht
            have HX := Lib.hid (heap_alloc_new wo (.cells #[.int .i64 3, .string ⟨#[]⟩] 31))
            have Hown1 := Lib.hid (Hown.out.alloc (.cells #[.int .i64 3, .string ⟨#[]⟩] 31))
            have Hb1 := Lib.hid (Hb.out.alloc hs (.cells #[.int .i64 3, .string ⟨#[]⟩] 31))
            have HF : Hid (∀ W, Calls Try.prog 24 #[.agg #[.int .i64 3, .string ⟨#[]⟩]] W fun e w' => e = .returned (.string ⟨#[123]⟩) ∧ Below W.heap.size W w') := Lib.hid (fun W => sfmtT 3 ⟨#[]⟩ W (by decide))
            have HZn := Lib.hid (show M.length = 160 → R = none from fun h => by rw [Hz1.out, Hmt.out, if_pos h])
            have HZr := Lib.hid (show M.length ≠ 160 → R = tz ((bs T).drop (j + 1)) (M ++ [⟨3, []⟩]) from fun h => by rw [Hz1.out, Hmt.out, if_neg h])
            obtain ⟨s0, s1⟩ := blk_cells2 HX.out
            have hxl := lt_of_block HX.out
            clear hmk hsp' h3 hxe
            go_wp2_with fail
            refine (Hmk.out _).mono ?_
            rintro e wq ⟨rfl, rfl⟩
            go_wp2_with fail
            refine (HF.out _).mono ?_
            rintro e w2 ⟨rfl, hb2⟩
            have HX2 := Lib.hid (below_blk hb2 (lt_of_block HX.out) HX.out)
            have Hown2 := Lib.hid (row_below Hown1.out hb2)
            have Hb2 := Lib.hid (below_nx Hb1.out hb2)
            clear hb2 s0 s1 hxl
            obtain ⟨s0, s1⟩ := blk_cells2 HX2.out
            have hxl2 := lt_of_block HX2.out
            by_cases h160 : M.length = 160
            · obtain rfl := HZn.out h160
              have hlI : ((M.length : Int) == 160) = true := by simp; omega
              have hs2 := Hb2.out.size
              clear h160
              go_wp2_with fail
              go_returns
              exact ⟨_, rfl, Enc.Sl.nil, Hb2.out.alloc hs2 _⟩
            · have Hz9 := Lib.hid (HZr.out h160)
              have hM9 : M.length + 1 ≤ 160 := by omega
              have hlI : ((M.length : Int) == 160) = false := by simp; omega
              have hs2 := Hb2.out.size
              have Hown3 := Lib.hid (Hown2.out.alloc (.cells #[.int .i64 3, .string ⟨#[]⟩] 31))
              have Hb3 := Lib.hid (Hb2.out.alloc hs2 (.cells #[.int .i64 3, .string ⟨#[]⟩] 31))
              have Hnew := Lib.hid (show tkE.Sl (w2.alloc (.cells #[.int .i64 3, .string ⟨#[]⟩] 31)) w2.heap.size (.slice (some ⟨w2.heap.size, 0, none⟩) 1 1) [⟨3, []⟩] from Enc.Sl.mk rfl (Nat.le_refl _) (Nat.le_refl _) ⟨_, heap_alloc_new w2 _, by first | rfl | simp [tkE, Enc.flat, sb_bs]⟩)
              clear h160
              go_wp2_with (first
                | (at_builtin; refine wpList_append_sl (E := tkE) rfl _ _ 24 rfl w.heap.size i0 (.agg #[.int .i64 0, .string ⟨#[]⟩]) 24 Try.underlying24 hi hz0 hz1 hz2 rfl (by decide) _ _ _ rfl Hown3.out w2.heap.size _ [⟨3, []⟩] rfl Hnew.out ?d3 ?d4 ?d5 ?_))
              case d3 => unfold maxLen; simp; omega
              case d4 => simp; omega
              case d5 => simp; omega
              intro v' w4 hown' hgrow hat
              rw [← tkE.flat_app] at hown'
              have hown9 : w4.ownsRow w.heap.size 31 2 v' (M ++ [(⟨3, []⟩ : Tk)]).length (tkE.flat (M ++ [(⟨3, []⟩ : Tk)])) := by rw [List.length_append]; exact hown'
              have Hb4 := Lib.hid (Hb3.out.grown hgrow (by have := Hb3.out.size; omega) (fun q hq => by have := (Hown3.out.lt q hq).1; omega))
              have Hown4 := Lib.hid hown9
              clear hown' hown9 hgrow hat
              go_wp2_with fail
              go_roundg (T.size - (j + 1))
              case measure => omega
              case rel => exact ⟨j + 1, _, rfl, by omega, by go_num, by simp; omega, Hz9, Hown4, Hb4⟩
          · have Hmt := Lib.hid (tz_mk (r := (bs T).drop (j + 1)) (M := M) hsp' hmk)
            have ht : t = ⟨4, []⟩ := by
              rw [h3] at hmk
              have e : mkT 125 = some ⟨4, []⟩ := rfl
              rw [e] at hmk
              injection hmk with hmk
              exact hmk.symm
            rw [show mkK T[j] = 4 from hxe ▸ (by rw [h3]; rfl : mkK x = 4)] at Hmk
            subst ht
            have HX := Lib.hid (heap_alloc_new wo (.cells #[.int .i64 4, .string ⟨#[]⟩] 31))
            have Hown1 := Lib.hid (Hown.out.alloc (.cells #[.int .i64 4, .string ⟨#[]⟩] 31))
            have Hb1 := Lib.hid (Hb.out.alloc hs (.cells #[.int .i64 4, .string ⟨#[]⟩] 31))
            have HF : Hid (∀ W, Calls Try.prog 24 #[.agg #[.int .i64 4, .string ⟨#[]⟩]] W fun e w' => e = .returned (.string ⟨#[125]⟩) ∧ Below W.heap.size W w') := Lib.hid (fun W => sfmtT 4 ⟨#[]⟩ W (by decide))
            have HZn := Lib.hid (show M.length = 160 → R = none from fun h => by rw [Hz1.out, Hmt.out, if_pos h])
            have HZr := Lib.hid (show M.length ≠ 160 → R = tz ((bs T).drop (j + 1)) (M ++ [⟨4, []⟩]) from fun h => by rw [Hz1.out, Hmt.out, if_neg h])
            obtain ⟨s0, s1⟩ := blk_cells2 HX.out
            have hxl := lt_of_block HX.out
            clear hmk hsp' h3 hxe
            go_wp2_with fail
            refine (Hmk.out _).mono ?_
            rintro e wq ⟨rfl, rfl⟩
            go_wp2_with fail
            refine (HF.out _).mono ?_
            rintro e w2 ⟨rfl, hb2⟩
            have HX2 := Lib.hid (below_blk hb2 (lt_of_block HX.out) HX.out)
            have Hown2 := Lib.hid (row_below Hown1.out hb2)
            have Hb2 := Lib.hid (below_nx Hb1.out hb2)
            clear hb2 s0 s1 hxl
            obtain ⟨s0, s1⟩ := blk_cells2 HX2.out
            have hxl2 := lt_of_block HX2.out
            by_cases h160 : M.length = 160
            · obtain rfl := HZn.out h160
              have hlI : ((M.length : Int) == 160) = true := by simp; omega
              have hs2 := Hb2.out.size
              clear h160
              go_wp2_with fail
              go_returns
              exact ⟨_, rfl, Enc.Sl.nil, Hb2.out.alloc hs2 _⟩
            · have Hz9 := Lib.hid (HZr.out h160)
              have hM9 : M.length + 1 ≤ 160 := by omega
              have hlI : ((M.length : Int) == 160) = false := by simp; omega
              have hs2 := Hb2.out.size
              have Hown3 := Lib.hid (Hown2.out.alloc (.cells #[.int .i64 4, .string ⟨#[]⟩] 31))
              have Hb3 := Lib.hid (Hb2.out.alloc hs2 (.cells #[.int .i64 4, .string ⟨#[]⟩] 31))
              have Hnew := Lib.hid (show tkE.Sl (w2.alloc (.cells #[.int .i64 4, .string ⟨#[]⟩] 31)) w2.heap.size (.slice (some ⟨w2.heap.size, 0, none⟩) 1 1) [⟨4, []⟩] from Enc.Sl.mk rfl (Nat.le_refl _) (Nat.le_refl _) ⟨_, heap_alloc_new w2 _, by first | rfl | simp [tkE, Enc.flat, sb_bs]⟩)
              clear h160
              go_wp2_with (first
                | (at_builtin; refine wpList_append_sl (E := tkE) rfl _ _ 24 rfl w.heap.size i0 (.agg #[.int .i64 0, .string ⟨#[]⟩]) 24 Try.underlying24 hi hz0 hz1 hz2 rfl (by decide) _ _ _ rfl Hown3.out w2.heap.size _ [⟨4, []⟩] rfl Hnew.out ?d3 ?d4 ?d5 ?_))
              case d3 => unfold maxLen; simp; omega
              case d4 => simp; omega
              case d5 => simp; omega
              intro v' w4 hown' hgrow hat
              rw [← tkE.flat_app] at hown'
              have hown9 : w4.ownsRow w.heap.size 31 2 v' (M ++ [(⟨4, []⟩ : Tk)]).length (tkE.flat (M ++ [(⟨4, []⟩ : Tk)])) := by rw [List.length_append]; exact hown'
              have Hb4 := Lib.hid (Hb3.out.grown hgrow (by have := Hb3.out.size; omega) (fun q hq => by have := (Hown3.out.lt q hq).1; omega))
              have Hown4 := Lib.hid hown9
              clear hown' hown9 hgrow hat
              go_wp2_with fail
              go_roundg (T.size - (j + 1))
              case measure => omega
              case rel => exact ⟨j + 1, _, rfl, by omega, by go_num, by simp; omega, Hz9, Hown4, Hb4⟩
    · obtain rfl : j = T.size := by omega
      have hR := Hz.out
      rw [List.drop_of_length_le (by rw [bs_len]; exact Nat.le_refl _), tz] at hR
      subst hR
      have Hsl := Lib.hid (Enc.Sl.of_own (E := tkE) Hown.out)
      obtain ⟨pq, cq, rfl, -, -⟩ := id Hsl.out
      go_wp2_with fail
      go_returns
      exact ⟨_, rfl, Hsl.out, Hb.out⟩
end Go.Proofs.Ytgicldokglpimaa
