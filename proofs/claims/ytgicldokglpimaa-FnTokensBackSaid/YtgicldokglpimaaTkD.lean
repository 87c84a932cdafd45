/- The draws of tokens. -/
import Derived.Test.YtgicldokglpimaaTkW
import Derived.Test.YtgicldokglpimaaTkV
import Derived.Test.YtgicldokglpimaaDwT
import Derived.Test.YtgicldokglpimaaGtD
import Derived.Test.YtgicldokglpimaaBaseB12
namespace Go.Proofs.Ytgicldokglpimaa
open Go.RowKit
/-- A token that is drawn right. -/
def TkD (t : Tk) : Prop := tkT t ≠ [] ∧ t.s.length ≤ 9
def wlist : List ByteArray := [⟨#[97]⟩, ⟨#[104]⟩, ⟨#[113, 117, 98, 105, 116, 115]⟩, ⟨#[48]⟩, ⟨#[114, 101, 112, 101, 97, 116]⟩, ⟨#[49, 50, 51, 52, 53, 54, 55, 56]⟩]
theorem wlist_at (w : World) : ListAt (w.alloc (.cells #[.string ⟨#[97]⟩, .string ⟨#[104]⟩, .string ⟨#[113, 117, 98, 105, 116, 115]⟩, .string ⟨#[48]⟩, .string ⟨#[114, 101, 112, 101, 97, 116]⟩, .string ⟨#[49, 50, 51, 52, 53, 54, 55, 56]⟩] 9)) w.heap.size 6 (fun j => .string (wlist.getD j ByteArray.empty)) := by
  refine zlist_at (heap_alloc_new _ _) 6 _ ?_
  intro j hj
  rcases (show j = 0 ∨ j = 1 ∨ j = 2 ∨ j = 3 ∨ j = 4 ∨ j = 5 by omega) with rfl | rfl | rfl | rfl | rfl | rfl <;> rfl
theorem wlist_ok : ∀ j, j < 6 → TkD ⟨1, bs (wlist.getD j ByteArray.empty)⟩ := by
  intro j hj
  unfold TkD
  rcases (show j = 0 ∨ j = 1 ∨ j = 2 ∨ j = 3 ∨ j = 4 ∨ j = 5 by omega) with rfl | rfl | rfl | rfl | rfl | rfl <;> decide
def vlist : List ByteArray := [⟨#[]⟩, ⟨#[65]⟩, ⟨#[120]⟩, ⟨#[49, 50, 51, 52, 53, 54, 55, 56, 57]⟩]
theorem vlist_at (w : World) : ListAt (w.alloc (.cells #[.string ⟨#[]⟩, .string ⟨#[65]⟩, .string ⟨#[120]⟩, .string ⟨#[49, 50, 51, 52, 53, 54, 55, 56, 57]⟩] 9)) w.heap.size 4 (fun j => .string (vlist.getD j ByteArray.empty)) := by
  refine zlist_at (heap_alloc_new _ _) 4 _ ?_
  intro j hj
  rcases (show j = 0 ∨ j = 1 ∨ j = 2 ∨ j = 3 by omega) with rfl | rfl | rfl | rfl <;> rfl
theorem vlist_ok : ∀ j, j < 4 → (bs (vlist.getD j ByteArray.empty)).length ≤ 9 := by
  intro j hj
  rcases (show j = 0 ∨ j = 1 ∨ j = 2 ∨ j = 3 by omega) with rfl | rfl | rfl | rfl <;> decide
attribute [local irreducible] World.cell?
set_option maxRecDepth 100000 in
set_option maxHeartbeats 3200000 in
theorem tok_any (B : Nat) (w : World) (hcur : CurAt w B) (hB : B < w.heap.size) :
    Calls Try.prog 43 #[.pointer (some ⟨B, 0, none⟩)] w fun e w' => (∃ t : Tk, e = .returned (.agg #[.int .i64 t.k, .string (sb t.s)]) ∧ TkD t) ∧ CurAt w' B ∧ Own B w w' := by
  have HR := Lib.hid (heap_alloc_new w (.cells #[.int .i64 0, .string ⟨#[]⟩] 31))
  have hne : w.heap.size ≠ B := by omega
  have Hb0 := Lib.hid (show Below w.heap.size w (w.alloc (.cells #[.int .i64 0, .string ⟨#[]⟩] 31)) by go_grown)
  have Hc0 := Lib.hid (hcur.below Hb0.out hB)
  have Ho0 := Lib.hid (show Own B w _ from own_of_below Hb0.out)
  clear hcur
  go_enter Try.func43, Try.ntmps43
  go_wp2_with fail
  refine (once_any B 2 _ Hc0.out (by omega) (by omega)).mono ?_
  rintro e w1 ⟨⟨x, rfl⟩, hc1, ho1⟩
  have hs1 := ho1.size
  simp at hs1
  have Hc1 := Lib.hid hc1
  have HR1 := Lib.hid (own_blk ho1 hne HR.out)
  have Ho1 := Lib.hid (own_trans Ho0.out ho1)
  clear hc1 ho1 Hc0 Ho0 HR
  cases x with
  | true =>
    have Hc2 := Lib.hid (Hc1.out.below (w' := w1.alloc (.cells #[.string ⟨#[97]⟩, .string ⟨#[104]⟩, .string ⟨#[113, 117, 98, 105, 116, 115]⟩, .string ⟨#[48]⟩, .string ⟨#[114, 101, 112, 101, 97, 116]⟩, .string ⟨#[49, 50, 51, 52, 53, 54, 55, 56]⟩] 9)) (C := w1.heap.size) (by go_grown) (by omega))
    have Hl2 := Lib.hid (wlist_at w1)
    have HR2 := Lib.hid (alloc_blk (.cells #[.string ⟨#[97]⟩, .string ⟨#[104]⟩, .string ⟨#[113, 117, 98, 105, 116, 115]⟩, .string ⟨#[48]⟩, .string ⟨#[114, 101, 112, 101, 97, 116]⟩, .string ⟨#[49, 50, 51, 52, 53, 54, 55, 56]⟩] 9) HR1.out)
    have Ho2 := Lib.hid (own_alloc Ho1.out (.cells #[.string ⟨#[97]⟩, .string ⟨#[104]⟩, .string ⟨#[113, 117, 98, 105, 116, 115]⟩, .string ⟨#[48]⟩, .string ⟨#[114, 101, 112, 101, 97, 116]⟩, .string ⟨#[49, 50, 51, 52, 53, 54, 55, 56]⟩] 9))
    clear Hc1 HR1 Ho1
    go_wp2_with fail
    refine (pick_any B w1.heap.size 6 _ (fun j => wlist.getD j ByteArray.empty) _ Hc2.out Hl2.out (by omega) (by omega) (by omega)).mono ?_
    rintro e w3 ⟨⟨q, hq, rfl⟩, hc3, ho3⟩
    have hT := wlist_ok q hq
    generalize wlist.getD q ByteArray.empty = T at *
    have HR3 := own_blk ho3 hne HR2.out
    have Hc3 := Lib.hid hc3
    have Ho3 := Lib.hid (own_trans Ho2.out ho3)
    obtain ⟨r0, r1⟩ := blk_cells2 HR3
    have fR := fun o => free_at HR3 o
    have hRl := lt_of_block HR3
    have HRs := Lib.hid HR3
    clear hc3 ho3 Hc2 HR2 Ho2 HR3
    go_wp2_with fail
    obtain ⟨k0', k1'⟩ := blk_cells2 (set2_atT (u0 := .int .i64 1) (u1 := .string T) HRs.out)
    refine bodyPost_ret (v := .agg #[.int .i64 1, .string T]) (by simp only [results, Try.results43]; simp [go_sem, k0', k1']) rfl ⟨⟨⟨1, bs T⟩, by rw [sb_bs], hT⟩, ?_, ?_⟩
    · exact Hc3.out.own (C := w.heap.size) (own_set (own_set (own_refl _ _) _ _) _ _) hB
    · exact own_dn (own_dn Ho3.out _ _ (Nat.le_refl _)) _ _ (Nat.le_refl _)
  | false =>
    go_wp2_with fail
    refine (below_any B 3 _ Hc1.out (by omega) (by omega)).mono ?_
    rintro e w3 ⟨⟨q, q0, q1, rfl⟩, hc3, ho3⟩
    have HR3 := own_blk ho3 hne HR1.out
    have Hc3 := Lib.hid hc3
    have Ho3 := Lib.hid (own_trans Ho1.out ho3)
    obtain ⟨r0, r1⟩ := blk_cells2 HR3
    have fR := fun o => free_at HR3 o
    have hRl := lt_of_block HR3
    have HRs := Lib.hid HR3
    have hD : TkD ⟨2 + q, []⟩ := by
      unfold TkD
      rcases (show q = 0 ∨ q = 1 ∨ q = 2 by omega) with rfl | rfl | rfl <;> decide
    clear hc3 ho3 Hc1 HR1 Ho1 HR3
    go_wp2_with fail
    obtain ⟨k0', k1'⟩ := blk_cells2 (set2_atT (u0 := .int .i64 (2 + q)) (u1 := .string ⟨#[]⟩) HRs.out)
    refine bodyPost_ret (v := .agg #[.int .i64 (2 + q), .string ⟨#[]⟩]) (by simp only [results, Try.results43]; simp [go_sem, k0', k1']) rfl ⟨⟨⟨2 + q, []⟩, rfl, hD⟩, ?_, ?_⟩
    · exact Hc3.out.own (C := w.heap.size) (own_set (own_set (own_refl _ _) _ _) _ _) hB
    · exact own_dn (own_dn Ho3.out _ _ (Nat.le_refl _)) _ _ (Nat.le_refl _)
set_option maxRecDepth 100000 in
set_option maxHeartbeats 3200000 in
theorem toks_any (B : Nat) (w : World) (hcur : CurAt w B) (hB : B < w.heap.size) :
    Calls Try.prog 29 #[.pointer (some ⟨B, 0, none⟩)] w fun e w' => (∃ v l, e = .returned v ∧ List.length l ≤ 7 ∧ (∀ t ∈ l, TkD t) ∧ w'.ownsRow w.heap.size 31 2 v l.length (tkE.flat l)) ∧ CurAt w' B ∧ Own B w w' := by
  obtain ⟨i0, hi, hz0, hz1, hz2⟩ := info_parts infoTk
  have Hw0 := Lib.hid (World.ownsRow_lit (base := w.heap.size) w #[] 0 (Nat.le_refl _) (Nat.zero_le _) rfl (e := 31) (size := 2))
  have Hb0 := Lib.hid (show Below w.heap.size w (w.alloc (.cells #[] 31)) by go_grown)
  have Hc0 := Lib.hid (hcur.below Hb0.out hB)
  have Ho0 := Lib.hid (show Own B w _ from own_of_below Hb0.out)
  clear hcur
  go_enter Try.func29, Try.ntmps29
  go_wp2_with fail
  refine (below_any B 8 _ Hc0.out (by omega) (by omega)).mono ?_
  rintro e w1 ⟨⟨x, x0, x1, rfl⟩, hc1, ho1⟩
  obtain ⟨x, rfl⟩ : ∃ q : Nat, x = q := ⟨x.toNat, by omega⟩
  have Hw1 := Lib.hid (row_own Hw0.out ho1 hB)
  have hs1 := ho1.size
  simp at hs1
  have Hc1 := Lib.hid hc1
  have Ho1 := Lib.hid (own_trans Ho0.out ho1)
  clear hc1 ho1 Hc0 Ho0 Hw0 Hb0
  go_wp2_with fail
  go_loopg [3, 5] x (fun m' ov i wr => ∃ (j : Nat) (l : List Tk), m' = x - j ∧ j ≤ x ∧ i = .int .i64 j ∧ l.length = j ∧ Hid (∀ t ∈ l, TkD t) ∧ Hid (wr.ownsRow w.heap.size 31 2 ov l.length (tkE.flat l)) ∧ Hid (CurAt wr B) ∧ Hid (Own B w wr))
  case atStart => exact ⟨0, [], rfl, Nat.zero_le _, rfl, rfl, Lib.hid (fun g h => absurd h List.not_mem_nil), Lib.hid Hw1.out, Hc1, Ho1⟩
  case round =>
    obtain ⟨j, l, rfl, hj, rfl, hl, Hbd, Hown, Hc, Ho⟩ := hrel
    subst hl
    have hs := Ho.out.size
    obtain ⟨po0, co0, rfl⟩ := own_shape Hown.out
    by_cases hlt : l.length < x
    · go_wp2_with fail
      refine (tok_any B _ Hc.out (by omega)).mono ?_
      rintro e w2 ⟨⟨t, rfl, ht⟩, hc2, ho2⟩
      have hs2 := ho2.size
      have Hown2 := Lib.hid (row_own Hown.out ho2 (by omega))
      have Hown3 := Lib.hid (Hown2.out.alloc (.cells #[.int .i64 t.k, .string (sb t.s)] 31))
      have Hnew := Lib.hid (show tkE.Sl (w2.alloc (.cells #[.int .i64 t.k, .string (sb t.s)] 31)) w2.heap.size (.slice (some ⟨w2.heap.size, 0, none⟩) 1 1) [t] from Enc.Sl.mk rfl (Nat.le_refl _) (Nat.le_refl _) ⟨_, heap_alloc_new w2 _, rfl⟩)
      have Hc2 := Lib.hid (hc2.below (w' := w2.alloc (.cells #[.int .i64 t.k, .string (sb t.s)] 31)) (C := w2.heap.size) (by go_grown) (by omega))
      have Ho2 := Lib.hid (own_alloc (own_trans Ho.out ho2) (.cells #[.int .i64 t.k, .string (sb t.s)] 31))
      have hsa : w.heap.size ≤ (w2.alloc (.cells #[.int .i64 t.k, .string (sb t.s)] 31)).heap.size := by simp; omega
      clear hc2 ho2
      go_wp2_with (first
        | (at_builtin; refine wpList_append_sl (E := tkE) rfl _ _ 24 rfl w.heap.size i0 (.agg #[.int .i64 0, .string ⟨#[]⟩]) 24 Try.underlying24 hi hz0 hz1 hz2 rfl (by decide) _ _ _ rfl Hown3.out w2.heap.size _ [t] rfl Hnew.out ?d3 ?d4 ?d5 ?_))
      case d3 => unfold maxLen; simp; omega
      case d4 => simp; omega
      case d5 => simp; omega
      intro v' w4 hown' hgrow hat
      rw [← tkE.flat_app] at hown'
      have hown9 : w4.ownsRow w.heap.size 31 2 v' (l ++ [t]).length (tkE.flat (l ++ [t])) := by rw [List.length_append]; exact hown'
      have hb4 : Below w.heap.size (w2.alloc (.cells #[.int .i64 t.k, .string (sb t.s)] 31)) w4 := (Below.refl w.heap.size _).grown hgrow hsa (fun q hq => (Hown3.out.lt q hq).1)
      have Hc4 := Lib.hid (Hc2.out.below hb4 hB)
      have Ho4 := Lib.hid (own_under Ho2.out hb4 (by omega))
      have Hown4 := Lib.hid hown9
      have Hbd4 := Lib.hid (show ∀ g' ∈ l ++ [t], TkD g' from fun g' h => by
        rcases List.mem_append.1 h with h | h
        · exact Hbd.out g' h
        · obtain rfl := List.mem_singleton.1 h; exact ht)
      clear hown' hown9 hgrow hat hb4
      go_wp2_with fail
      go_roundg (x - (l.length + 1))
      case measure => omega
      case rel => exact ⟨l.length + 1, _, rfl, by omega, by go_num, by simp, Hbd4, Hown4, Hc4, Ho4⟩
    · obtain rfl : l.length = x := by omega
      go_wp2_with fail
      go_ret
      exact ⟨⟨_, l, rfl, by omega, Hbd.out, Hown.out⟩, Hc.out, Ho.out⟩
end Go.Proofs.Ytgicldokglpimaa
