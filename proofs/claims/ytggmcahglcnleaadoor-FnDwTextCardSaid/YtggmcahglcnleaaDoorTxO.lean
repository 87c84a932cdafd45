/- The program's FormatDOmega: four numerals appended, joined, the exponent behind them. -/
import Derived.Test.YtggmcahglcnleaaDoorTxN
import Derived.Test.YtggmcahglcnleaaDoorTxS
import Derived.Test.YtggmcahglcnleaaDoorDwS
import Derived.Test.YtggmcahglcnleaaDoorStdJoin
namespace Go.Proofs.YtggmcahglcnleaaDoor
open Go.RowKit Go.Lib
theorem row_below {w w' : World} {base : Nat} {e : TypeId} {size : Nat} {v : Value} {n : Nat} {xs : List Value} (h : w.ownsRow base e size v n xs) (hb : Below w.heap.size w w') : w'.ownsRow base e size v n xs := by
  obtain ⟨h1, h2⟩ := h
  refine ⟨h1, ?_⟩
  rcases h2 with h2 | ⟨g, cap, cur, a, b, c, d⟩
  · exact .inl h2
  · exact .inr ⟨g, cap, cur, a, b, by rw [hb.block g (lt_of_block c)]; exact c, d⟩
/-- The k-th coefficient. -/
def at4 (n : Zw) (k : Nat) : Int := if k = 0 then n.a else if k = 1 then n.b else if k = 2 then n.c else n.d
theorem idxc (x : Zw) (j : Nat) (h : j < 4) (w : World) : (Instr.index 46 (.agg #[.int .i64 x.a, .int .i64 x.b, .int .i64 x.c, .int .i64 x.d]) (.int .i64 j)).run Tryd.prog w = .ok (.int .i64 (at4 x j)) w := by
  rcases (show j = 0 ∨ j = 1 ∨ j = 2 ∨ j = 3 by omega) with rfl | rfl | rfl | rfl <;> kernel_rfl
/-- The numerals of the coefficients. -/
def nums (x : Zw) : List ByteArray := [toB (itoa x.a), toB (itoa x.b), toB (itoa x.c), toB (itoa x.d)]
theorem nums_at (x : Zw) (j : Nat) (h : j < 4) : (nums x).getD j ByteArray.empty = toB (itoa (at4 x j)) := by
  rcases (show j = 0 ∨ j = 1 ∨ j = 2 ∨ j = 3 by omega) with rfl | rfl | rfl | rfl <;> rfl
theorem nums_snoc (x : Zw) (j : Nat) (h : j < 4) : ((nums x).map Value.string).take j ++ [.string (toB (itoa (at4 x j)))] = ((nums x).map Value.string).take (j + 1) := by
  rcases (show j = 0 ∨ j = 1 ∨ j = 2 ∨ j = 3 by omega) with rfl | rfl | rfl | rfl <;> rfl
/-- A row of four strings that the call owns. -/
theorem own_row4 {w' : World} {B : Nat} {x : Zw} {v : Value} (h : w'.ownsRow B 9 1 v 4 (((nums x).map Value.string).take 4)) :
    ∃ g cap, v = .slice (some ⟨g, 0, none⟩) 4 cap ∧ 4 ≤ cap ∧ StrRow w' g 4 (fun j => (nums x).getD j ByteArray.empty) := by
  rcases h.2 with ⟨_, h2⟩ | ⟨g, cap, cur, hv, hb, hg, hn, hc, hs, ht⟩
  · omega
  · refine ⟨g, cap, hv, by omega, cur, hg, fun j hj => ?_⟩
    have e := congrArg (fun x : List Value => x[j]?) ht
    simp only [List.getElem?_take, Nat.mul_one, if_pos hj] at e
    rw [← Array.getElem?_toList, e]
    rcases (show j = 0 ∨ j = 1 ∨ j = 2 ∨ j = 3 by omega) with rfl | rfl | rfl | rfl <;> rfl
set_option maxRecDepth 100000 in
set_option maxHeartbeats 800000 in
theorem ijoin4 (l0 l1 l2 l3 : List UInt8) (h0 : l0.length ≤ 1000) (h1 : l1.length ≤ 1000) (h2 : l2.length ≤ 1000) (h3 : l3.length ≤ 1000) (g cap : Nat) (hcap : 4 ≤ cap) (W : World)
    (hrow : StrRow W g 4 (fun j => [toB l0, toB l1, toB l2, toB l3].getD j ByteArray.empty)) :
    Calls Tryd.prog 21 #[.slice (some ⟨g, 0, none⟩) 4 cap, .string ⟨#[44]⟩] W
      fun e w' => e = .returned (.string (toB (l0 ++ 44 :: (l1 ++ 44 :: (l2 ++ 44 :: l3))))) ∧ Below W.heap.size W w' := by
  have hc := Tryd.strings_Join g 0 cap [toB l0, toB l1, toB l2, toB l3] ⟨#[44]⟩ W (fun j x hx => by
    have hj : j < 4 := by
      rcases Nat.lt_or_ge j 4 with h' | h'
      · exact h'
      · rw [List.getElem?_eq_none (by simpa using h')] at hx; cases hx
    rw [Nat.zero_add, hrow.cell hj, List.getD_eq_getElem?_getD, hx]
    rfl) hrow.lt (by simp) (by simpa using hcap) (by simp [toB_data, join_cons, joinTail]; omega)
  have e : (⟨(join ([toB l0, toB l1, toB l2, toB l3].map (·.data.toList)) [44]).toArray⟩ : ByteArray) = toB (l0 ++ 44 :: (l1 ++ 44 :: (l2 ++ 44 :: l3))) := by
    show toB _ = toB _
    congr 1
    simp [toB_data, join_cons, joinTail]
  have Hc := Lib.hid (show Calls Tryd.prog 42 #[.slice (some ⟨g, 0, none⟩) 4 cap, .string ⟨#[44]⟩] W fun e w' => e = .returned (.string (toB (l0 ++ 44 :: (l1 ++ 44 :: (l2 ++ 44 :: l3))))) ∧ Below W.heap.size W w' from hc.mono (fun x w' ⟨h1, h2⟩ => ⟨by rw [h1]; exact congrArg (fun z => Ending.returned (.string z)) e, h2⟩))
  clear hc e hrow
  go_enter Tryd.func21, Tryd.ntmps21
  go_wp2_with fail
  refine Hc.out.mono ?_
  rintro e w1 ⟨rfl, hb⟩
  go_wp2_with fail
  go_ret
  exact ⟨rfl, hb⟩
/-- A box of a fraction beside a row of four strings. -/
def DR (w : World) (b : Nat) (x : Dw) (g : Nat) (f : Nat → ByteArray) (w' : World) : Prop := w'.cell? ⟨b, 0, none⟩ = some (.int .i64 x.n.a) ∧ w'.cell? ⟨b, 1, none⟩ = some (.int .i64 x.n.b) ∧ w'.cell? ⟨b, 2, none⟩ = some (.int .i64 x.n.c) ∧ w'.cell? ⟨b, 3, none⟩ = some (.int .i64 x.n.d) ∧ w'.cell? ⟨b, 4, none⟩ = some (.int .i64 x.e) ∧ b < w'.heap.size ∧ StrRow w' g 4 f ∧ Below w.heap.size w w'
theorem DR.drew {w w' : World} {b : Nat} {x : Dw} {g : Nat} {f : Nat → ByteArray} (h : DR w b x g f w') : DR w b x g f w'.drew :=
  let ⟨a0, a1, a2, a3, a4, z, r, l⟩ := h; ⟨a0, a1, a2, a3, a4, z, r, l.drew⟩
theorem DR.below {w w1 w2 : World} {b : Nat} {x : Dw} {g : Nat} {f : Nat → ByteArray} (h : DR w b x g f w1) (hb : Below w1.heap.size w1 w2) : DR w b x g f w2 :=
  let ⟨a0, a1, a2, a3, a4, z, r, l⟩ := h
  ⟨cell_below a0 hb z, cell_below a1 hb z, cell_below a2 hb z, cell_below a3 hb z, cell_below a4 hb z, Nat.lt_of_lt_of_le z hb.size, r.below hb r.lt, below_up l hb l.size⟩
theorem DR.low {w w' : World} {b : Nat} {x : Dw} {g : Nat} {f : Nat → ByteArray} (h : DR w b x g f w') : Below w.heap.size w w' := h.2.2.2.2.2.2.2
attribute [local irreducible] World.cell?
set_option maxRecDepth 100000 in
set_option maxHeartbeats 1600000 in
theorem iformat_no (x : Dw) (w : World) (h0 : -9223372036854775808 ≤ x.e) (h1 : x.e ≤ 9223372036854775807) (hx : ¬ x.ok) :
    Calls Tryd.prog 8 #[(.agg #[.int .i64 x.n.a, .int .i64 x.n.b, .int .i64 x.n.c, .int .i64 x.n.d, .int .i64 x.e])] w fun e w' => e = .returned (.string (toB [])) ∧ Below w.heap.size w w' := by
  have Hx := Lib.hid (fun w => ivalidD x w h0 h1)
  rw [okD_false.2 hx] at Hx
  clear hx h0 h1
  go_enter Tryd.func8, Tryd.ntmps8
  go_wp2_with fail
  refine (Hx.out _).mono ?_
  rintro e w1 ⟨rfl, hb1⟩
  have Hp1 := Lib.hid (below_up (B := w.heap.size) (w := w) (by go_grown) hb1 (by simp))
  clear hb1
  go_wp2_with fail
  go_returns
  exact ⟨rfl, Hp1.out⟩
set_option maxRecDepth 100000 in
set_option maxHeartbeats 3200000 in
theorem iformat_yes (x : Dw) (w : World) (hx : x.ok) (hp : HasPow w) :
    Calls Tryd.prog 8 #[(.agg #[.int .i64 x.n.a, .int .i64 x.n.b, .int .i64 x.n.c, .int .i64 x.n.d, .int .i64 x.e])] w fun e w' => e = .returned (.string (toB (txt x))) ∧ Below w.heap.size w w' := by
  have Hpow := Lib.hid hp
  obtain ⟨⟨a0, a1⟩, ⟨b0, b1⟩, ⟨cc0, cc1⟩, ⟨d0, d1⟩, e0, e1⟩ := ok_bounds hx
  have Hx := Lib.hid (fun w => ivalidD x w (by omega) (by omega))
  rw [okD_true.2 hx] at Hx
  have hat : ∀ j, -1073741824 ≤ at4 x.n j ∧ at4 x.n j ≤ 1073741824 := by
    intro j; unfold at4
    split
    · exact ⟨a0, a1⟩
    · split
      · exact ⟨b0, b1⟩
      · split
        · exact ⟨cc0, cc1⟩
        · exact ⟨d0, d1⟩
  have Hf := Lib.hid (fun j w (h : HasPow w) => show Calls Tryd.prog 20 #[.int .i64 (at4 x.n j)] w fun e w' => e = .returned (.string (toB (itoa (at4 x.n j)))) ∧ Below w.heap.size w w' from ifmt_any (at4 x.n j) w (by have := hat j; omega) (by have := hat j; omega) h)
  have He := Lib.hid (fun w (h : HasPow w) => show Calls Tryd.prog 20 #[.int .i64 x.e] w fun e w' => e = .returned (.string (toB (itoa x.e))) ∧ Below w.heap.size w w' from ifmt_any x.e w (by omega) (by omega) h)
  have la := itoa_len x.n.a (by omega) (by omega)
  have lb := itoa_len x.n.b (by omega) (by omega)
  have lc := itoa_len x.n.c (by omega) (by omega)
  have ld := itoa_len x.n.d (by omega) (by omega)
  have le := itoa_len x.e (by omega) (by omega)
  have Hj := Lib.hid (fun g cap hc W hr => ijoin4 (itoa x.n.a) (itoa x.n.b) (itoa x.n.c) (itoa x.n.d) (by omega) (by omega) (by omega) (by omega) g cap hc W hr)
  have Hcat := Lib.hid (show toB (itoa x.n.a ++ 44 :: (itoa x.n.b ++ 44 :: (itoa x.n.c ++ 44 :: itoa x.n.d))) ++ ByteArray.mk #[47] ++ toB (itoa x.e) = toB (txt x) by
    apply ByteArray.ext
    simp [toB, txt, pre])
  have hz1 : (toB (itoa x.n.a ++ 44 :: (itoa x.n.b ++ 44 :: (itoa x.n.c ++ 44 :: itoa x.n.d)))).size ≤ 200 := by rw [toB_size]; simp only [List.length_append, List.length_cons]; omega
  have hz2 : (toB (itoa x.e)).size ≤ 21 := by rw [toB_size]; exact le
  have h9 : (ByteArray.mk #[47]).size = 1 := rfl
  have g1 : (toB (itoa x.n.a ++ 44 :: (itoa x.n.b ++ 44 :: (itoa x.n.c ++ 44 :: itoa x.n.d)))).size + 1 ≤ 9223372036854775807 := by omega
  have g2 : (toB (itoa x.n.a ++ 44 :: (itoa x.n.b ++ 44 :: (itoa x.n.c ++ 44 :: itoa x.n.d)))).size ≤ 9223372036854775806 := by omega
  have g3 : (toB (itoa x.n.a ++ 44 :: (itoa x.n.b ++ 44 :: (itoa x.n.c ++ 44 :: itoa x.n.d)))).size + (ByteArray.mk #[47]).size ≤ 9223372036854775807 := by omega
  have g4 : ((toB (itoa x.n.a ++ 44 :: (itoa x.n.b ++ 44 :: (itoa x.n.c ++ 44 :: itoa x.n.d)))) ++ ByteArray.mk #[47]).size + (toB (itoa x.e)).size ≤ 9223372036854775807 := by rw [ByteArray.size_append]; omega
  have g5 : (toB (itoa x.n.a ++ 44 :: (itoa x.n.b ++ 44 :: (itoa x.n.c ++ 44 :: itoa x.n.d)))).size + 1 + (toB (itoa x.e)).size ≤ 9223372036854775807 := by omega
  have g6 : (toB (itoa x.n.a ++ 44 :: (itoa x.n.b ++ 44 :: (itoa x.n.c ++ 44 :: itoa x.n.d)))).size + (ByteArray.mk #[47]).size + (toB (itoa x.e)).size ≤ 9223372036854775807 := by omega
  have g7 : ¬ 9223372036854775807 < (toB (itoa x.n.a ++ 44 :: (itoa x.n.b ++ 44 :: (itoa x.n.c ++ 44 :: itoa x.n.d)))).size + 1 := by omega
  have g8 : ¬ 9223372036854775807 < (toB (itoa x.n.a ++ 44 :: (itoa x.n.b ++ 44 :: (itoa x.n.c ++ 44 :: itoa x.n.d)))).size + 1 + (toB (itoa x.e)).size := by omega
  have g9 : ¬ 9223372036854775807 < (toB (itoa x.n.a ++ 44 :: (itoa x.n.b ++ 44 :: (itoa x.n.c ++ 44 :: itoa x.n.d)))).size + (ByteArray.mk #[47]).size := by omega
  clear h9
  generalize (itoa x.n.a ++ 44 :: (itoa x.n.b ++ 44 :: (itoa x.n.c ++ 44 :: itoa x.n.d))) = P at *
  have Hco := Lib.hid (coefs x.n)
  have hidx := idxc x.n
  clear hx a0 a1 b0 b1 cc0 cc1 d0 d1 e0 e1 la lb lc ld le hp hat
  obtain ⟨i0, hi, hz00, hz01, hz02⟩ := info_parts infoStr
  have Hr0 := Lib.hid (heap_alloc_new w (.cells #[.int .i64 x.n.a, .int .i64 x.n.b, .int .i64 x.n.c, .int .i64 x.n.d, .int .i64 x.e] 27))
  go_enter Tryd.func8, Tryd.ntmps8
  go_wp2_with fail
  refine (Hx.out _).mono ?_
  rintro e w1 ⟨rfl, hb1⟩
  have hr0 := below_blk hb1 (lt_of_block Hr0.out) Hr0.out
  have zg0 := lt_of_block hr0
  obtain ⟨c0, c1, c2, c3, c4⟩ := blk_cells5 hr0
  have Hr1 := Lib.hid hr0
  have Hb1 := Lib.hid (below_up (B := w.heap.size) (w := w) (by go_grown) hb1 (by simp))
  clear hr0 hb1
  go_wp2_with fail
  refine (Hco.out _).mono ?_
  rintro e w2 ⟨rfl, hb2⟩
  have Hr2 := Lib.hid (below_blk hb2 zg0 Hr1.out)
  have Hb2 := Lib.hid (below_nx Hb1.out hb2)
  clear hb2 c0 c1 c2 c3 c4
  go_wp2_with fail
  go_loopw [3, 12] (fun v i wr => ∃ j : Nat, i = .int .i64 j ∧ j ≤ 4 ∧ Hid (wr.ownsRow (w.heap.size + 1) 9 1 v j (((nums x.n).map Value.string).take j)) ∧ Hid (wr.heap[w.heap.size]? = some (.cells #[.int .i64 x.n.a, .int .i64 x.n.b, .int .i64 x.n.c, .int .i64 x.n.d, .int .i64 x.e] 27)) ∧ Hid (Below w.heap.size w wr)) (fun _ i _ => 4 - (Go.RowKit.intOf i).toNat)
  case atStart => exact ⟨0, rfl, by omega, World.ownsRow_nil _ _ _ _, Hr2.out, Hb2.out⟩
  case round =>
    obtain ⟨j, rfl, hj4, Hown, HR, HB⟩ := hrel
    have hzr := lt_of_block HR.out
    by_cases hj : j < 4
    · have hjl : ((j : Int) < 4) := by omega
      have hi4 := hidx j hj
      have Hc := Lib.hid (Hf.out j wr (Hpow.out.below HB.out))
      go_wp2_with fail
      refine Hc.out.mono ?_
      rintro e w3 ⟨rfl, hb3⟩
      have Hown3 := Lib.hid (row_below Hown.out hb3)
      have HR3 := Lib.hid (below_blk hb3 hzr HR.out)
      have HB3 := Lib.hid (below_nx HB.out hb3)
      have hs3 := HB3.out.size
      have hr3 := lt_of_block HR3.out
      clear hb3 Hown HR HB Hc
      go_wp2_with (first
        | (at_builtin; refine wpList_append_own _ rfl _ _ 44 rfl (w.heap.size + 1) 9 i0 (.string ⟨#[]⟩) 1 16 Tryd.underlying44 hi hz00 hz01 hz02 rfl (by decide) _ _ _ rfl (Hown3.out.alloc _) ⟨w3.heap.size, 0, none⟩ 1 1 [.string (toB (itoa (at4 x.n j)))] rfl rfl ?d1 ?d2 ?d3 ?d4 ?d5 ?_))
      case d1 =>
        intro k u hk
        match k, hk with
        | 0, hk => simp at hk; subst hk; simp [Addr.add]
      case d2 => intro u hu; simp at hu; subst hu; rfl
      case d3 => unfold maxLen; omega
      case d4 => omega
      case d5 => simp; omega
      intro v' w4 hown' hgrow _
      have HB4 := Lib.hid ((HB3.out.alloc (by omega) (.cells #[.string (toB (itoa (at4 x.n j)))] 9)).grown hgrow (by simp; omega) (fun q hq => by have := Hown3.out.lt q hq; omega))
      have HR4 := Lib.hid (show w4.heap[w.heap.size]? = some (.cells #[.int .i64 x.n.a, .int .i64 x.n.b, .int .i64 x.n.c, .int .i64 x.n.d, .int .i64 x.e] 27) by
        rw [hgrow.block w.heap.size (by simp; omega) (fun h => by have := (Hown3.out.lt _ h.symm).1; omega)]
        exact alloc_blk _ HR3.out)
      rw [nums_snoc x.n j hj] at hown'
      have Hown4 := Lib.hid hown'
      clear hown' hgrow
      go_wp2_with fail
      go_roundw
      case rel => exact ⟨j + 1, by simp, by omega, Hown4.out, HR4, HB4⟩
      case measure => first | (simp [Go.RowKit.intOf]; done) | (simp [Go.RowKit.intOf]; omega)
    · obtain rfl : j = 4 := by omega
      obtain ⟨g, cap, rfl, hg, hrow⟩ := own_row4 Hown.out
      have Hj4 := Lib.hid (fun W (hr : StrRow W g 4 (fun j => (nums x.n).getD j ByteArray.empty)) => Hj.out g cap hg W hr)
      have hrd : StrRow wr.drew g 4 (fun j => (nums x.n).getD j ByteArray.empty) := hrow
      have hpd : HasPow wr.drew := Hpow.out.below HB.out.drew
      go_upto_region 9 with fail
      obtain ⟨c0, c1, c2, c3, c4⟩ := blk_cells5 HR.out
      go_cut [2] (fun s2 wx => s2 = .string (toB (txt x)) ∧ DR w w.heap.size x g (fun j => (nums x.n).getD j ByteArray.empty) wx)
      case first =>
        have hS : DR w w.heap.size x g (fun j => (nums x.n).getD j ByteArray.empty) wr := ⟨c0, c1, c2, c3, c4, hzr, hrow, HB.out⟩
        go_region_held3 (fun w' => w'.cell? ⟨w.heap.size, 0, none⟩ = some (.int .i64 x.n.a) ∧ w'.cell? ⟨w.heap.size, 1, none⟩ = some (.int .i64 x.n.b) ∧ w'.cell? ⟨w.heap.size, 2, none⟩ = some (.int .i64 x.n.c) ∧ w'.cell? ⟨w.heap.size, 3, none⟩ = some (.int .i64 x.n.d) ∧ w'.cell? ⟨w.heap.size, 4, none⟩ = some (.int .i64 x.e) ∧ w.heap.size < w'.heap.size ∧ StrRow w' g 4 (fun j => (nums x.n).getD j ByteArray.empty) ∧ Below w.heap.size w w') (first | (show DR w w.heap.size x g (fun j => (nums x.n).getD j ByteArray.empty) _; (with_reducible exact hS.drew)) | (show DR w w.heap.size x g (fun j => (nums x.n).getD j ByteArray.empty) _; (with_reducible refine DR.below ?_ hbR); first | assumption | exact ⟨by assumption, by assumption, by assumption, by assumption, by assumption, by assumption, by assumption, by assumption⟩))
          (first | (go_at_call 20; (with_reducible refine (He.out _ (by first | exact hpd | exact hpd.below hbR)).mono ?_); rintro e wR ⟨rfl, hbR⟩) | (go_at_call 21; (with_reducible refine (Hj4.out _ (by first | exact hrd | exact hrd.below hbR hrd.lt)).mono ?_); rintro e wR ⟨rfl, hbR⟩))
        all_goals go_wp2_with fail
        all_goals go_meet
        all_goals refine ⟨congrArg Value.string Hcat.out, ?_⟩
        all_goals first | assumption | exact ⟨by assumption, by assumption, by assumption, by assumption, by assumption, by assumption, by assumption, by assumption⟩
      case rest =>
      obtain ⟨rfl, hS⟩ := hcut
      have Hl := Lib.hid hS.low
      go_wp2_with fail
      go_returns
      exact ⟨rfl, Hl.out⟩
theorem iformat_any (x : Dw) (w : World) (h0 : -9223372036854775808 ≤ x.e) (h1 : x.e ≤ 9223372036854775807) (hp : HasPow w) :
    Calls Tryd.prog 8 #[(.agg #[.int .i64 x.n.a, .int .i64 x.n.b, .int .i64 x.n.c, .int .i64 x.n.d, .int .i64 x.e])] w fun e w' => e = .returned (.string (textD x)) ∧ Below w.heap.size w w' := by
  by_cases h : x.ok
  · rw [textD_of h]; exact iformat_yes x w h hp
  · rw [textD_no h]; exact iformat_no x w h0 h1 h
end Go.Proofs.YtggmcahglcnleaaDoor
