/- The program's FormatTokens: a strings.Builder written in a loop. -/
import Derived.Test.YtgicldokglpimaaTkKa
import Derived.Test.YtgicldokglpimaaBdW
import Derived.Test.YtgicldokglpimaaStdB
namespace Go.Proofs.Ytgicldokglpimaa
open Go.RowKit
theorem BdI.below {B b : Nat} {l : List UInt8} {w w' : World} (h : BdI B b l w) (hb : Below w.heap.size w w') : BdI B b l w' := by
  have key : ∀ p, Lib.BuilderAtF 51 5 B b p (Lib.byteCells l) w → Lib.BuilderAtF 51 5 B b p (Lib.byteCells l) w' := by
    rintro p ⟨hB, v, hbk, hown, hne⟩
    refine ⟨hB, v, below_blk hb (lt_of_block hbk) hbk, ⟨hown.1, ?_⟩, hne⟩
    rcases hown.2 with h | ⟨g, cap, cur, fz, e1, e2, e3, e4⟩
    · exact .inl h
    · exact .inr ⟨g, cap, cur, fz, e1, e2, below_blk hb (lt_of_block e3) e3, e4⟩
  exact h.elim (fun x => .inl (key _ x)) (fun x => .inr (key _ x))
attribute [local irreducible] World.cell?
set_option maxRecDepth 100000 in
set_option maxHeartbeats 3200000 in
theorem ifmtTs (B : Nat) (v : Value) (L : List Tk) (w : World) (hv : tkE.Sl w B v L) (hm : L.length ≤ 1048576) (hs : ∀ t ∈ L, t.s.length ≤ 1073741824) :
    Calls Try.prog 11 #[v] w fun e w' => e = .returned (.string (sb (tksL true L))) ∧ Below w.heap.size w w' := by
  obtain ⟨a, cap, rfl, hcap, hr⟩ := hv
  have Hr := Lib.hid hr
  have Hs := Lib.hid hs
  clear hr hs
  have Hf0 : Hid (BdI w.heap.size w.heap.size [] (w.alloc (.cells #[.pointer none, .slice none 0 0] 51))) := Lib.hid (Lib.IsBuilderF.of (Lib.fresh_isBuilder _ _ w))
  have Hb0 : Hid (Below w.heap.size w (w.alloc (.cells #[.pointer none, .slice none 0 0] 51))) := Lib.hid (by go_grown)
  go_enter Try.func11, Try.ntmps11
  go_wp2_with fail
  go_loopg [8] L.length (fun m i wr => ∃ j : Nat, m = L.length - j ∧ j ≤ L.length ∧ i = .int .i64 j ∧ Hid (BdI w.heap.size w.heap.size (tksL true (L.take j)) wr) ∧ Hid (Below w.heap.size w wr))
  case atStart => exact ⟨0, rfl, Nat.zero_le _, rfl, Hf0, Hb0⟩
  case round =>
    obtain ⟨j, rfl, hj, rfl, Hf, Hb⟩ := hrel
    have hsz := Hb.out.size
    have hbl : w.heap.size < wr.heap.size := Hf.out.elim (fun h => h.lt) (fun h => h.lt)
    by_cases hlt : j < L.length
    · obtain ⟨g, rfl, _, hrow⟩ := Hr.out (by omega)
      obtain ⟨x, hx⟩ : ∃ x, L[j]? = some x := ⟨L[j], List.getElem?_eq_getElem hlt⟩
      have r1 := hrow.below Hb.out hrow.lt
      obtain ⟨c0, c1⟩ := TRow.cells r1 hx
      have hgl := r1.lt
      have Hst := Lib.hid (show tksL true (L.take (j + 1)) = tksL true (L.take j) ++ ((if j = 0 ∨ x.k = 2 then [] else [32]) ++ tkT x) by
        rw [List.take_add_one, hx, Option.toList_some, tksL_snoc]
        congr 2
        have e : (L.take j).isEmpty = decide (j = 0) := by
          cases j with
          | zero => rfl
          | succ n =>
            cases L with
            | nil => simp at hlt
            | cons => simp
        rw [e]
        simp)
      have hF := ifmtT x.k (sb x.s)
      rw [bs_sb] at hF
      have HF := Lib.hid (fun W => hF W (by rw [sb_size]; exact Hs.out x (List.mem_of_getElem? hx)))
      have h1 := tksL_len true (L.take j)
      rw [List.length_take, Nat.min_eq_left hj] at h1
      have h2 := tkT_len x
      rw [show (⟨x.k, x.s⟩ : Tk) = x from rfl] at HF
      have z2 := sb_size (tkT x)
      have he : (sb (tkT x)).data.toList = tkT x := bs_sb _
      have He := Lib.hid he
      generalize tksL true (L.take j) = A at *
      generalize tkT x = E at *
      clear hF hrow r1 hx he
      have HX := Lib.hid (heap_alloc_new wr (.cells #[.int .i64 x.k, .string (sb x.s)] 31))
      have Hf1 := Lib.hid (Lib.IsBuilderF.alloc Hf.out (.cells #[.int .i64 x.k, .string (sb x.s)] 31))
      have Hb1 := Lib.hid (Hb.out.alloc hsz (.cells #[.int .i64 x.k, .string (sb x.s)] 31))
      obtain ⟨s0, s1⟩ := blk_cells2 HX.out
      have hxl := lt_of_block HX.out
      by_cases h0 : j = 0 ∨ x.k = 2
      · have Hst2 := Lib.hid (show A ++ E = tksL true (L.take (j + 1)) by rw [Hst.out, if_pos h0, List.nil_append])
        have H0 := Lib.hid h0
        clear Hst h0
        by_cases h00 : j = 0
        · have e0 : ¬ (0 : Int) < (j : Int) := by omega
          clear h00
          go_wp2_with fail
          refine (HF.out _).mono ?_
          rintro e w2 ⟨rfl, hb2⟩
          have Hf2 := Lib.hid (BdI.below Hf1.out hb2)
          have Hb2 := Lib.hid (below_nx Hb1.out hb2)
          have hs2 := Hb2.out.size
          have HS := Lib.hid (bdStr _ _ _ (sb E) w2 Hf2.out (by omega) hs2)
          clear hb2
          go_wp2_with fail
          refine HS.out.mono ?_
          rintro e w3 ⟨rfl, hf3, hb3, -⟩
          rw [He.out, Hst2.out] at hf3
          have Hf3 := Lib.hid hf3
          have Hb3 := Lib.hid (Hb2.out.trans hb3)
          clear hf3 hb3
          go_wp2_with fail
          go_roundg (L.length - (j + 1))
          case measure => omega
          case rel => exact ⟨j + 1, rfl, by omega, by go_num, Hf3, Hb3⟩
        · have e0 : (0 : Int) < (j : Int) := by omega
          have ek : x.k = 2 := by rcases H0.out with h | h; exact absurd h h00; exact h
          have ek2 : (x.k != 2) = false := by simp [ek]
          clear h00 ek
          go_wp2_with fail
          refine (HF.out _).mono ?_
          rintro e w2 ⟨rfl, hb2⟩
          have Hf2 := Lib.hid (BdI.below Hf1.out hb2)
          have Hb2 := Lib.hid (below_nx Hb1.out hb2)
          have hs2 := Hb2.out.size
          have HS := Lib.hid (bdStr _ _ _ (sb E) w2 Hf2.out (by omega) hs2)
          clear hb2
          go_wp2_with fail
          refine HS.out.mono ?_
          rintro e w3 ⟨rfl, hf3, hb3, -⟩
          rw [He.out, Hst2.out] at hf3
          have Hf3 := Lib.hid hf3
          have Hb3 := Lib.hid (Hb2.out.trans hb3)
          clear hf3 hb3
          go_wp2_with fail
          go_roundg (L.length - (j + 1))
          case measure => omega
          case rel => exact ⟨j + 1, rfl, by omega, by go_num, Hf3, Hb3⟩
      · have Hst2 := Lib.hid (show A ++ [32] ++ E = tksL true (L.take (j + 1)) by rw [Hst.out, if_neg h0, List.append_assoc])
        have e0 : (0 : Int) < (j : Int) := by omega
        have ek2 : (x.k != 2) = true := by simp; omega
        have HB1 := Lib.hid (bdByte _ _ _ 32 _ Hf1.out (by omega) (Hb1.out.size))
        clear Hst h0
        go_wp2_with fail
        refine HB1.out.mono ?_
        rintro e w2 ⟨rfl, hf2, hb2, k2⟩
        have Hf2 := Lib.hid hf2
        have Hb2 := Lib.hid (Hb1.out.trans hb2)
        have hs2 := Hb2.out.size
        have HX2 := Lib.hid (k2 _ _ HX.out (by simp; omega) (by intro c fz e; cases e))
        clear hf2 hb2 k2 s0 s1
        obtain ⟨s0, s1⟩ := blk_cells2 HX2.out
        have hxl2 := lt_of_block HX2.out
        go_wp2_with fail
        refine (HF.out _).mono ?_
        rintro e w3 ⟨rfl, hb3⟩
        have Hf3 := Lib.hid (BdI.below Hf2.out hb3)
        have Hb3 := Lib.hid (below_nx Hb2.out hb3)
        have hs3 := Hb3.out.size
        have HS := Lib.hid (bdStr _ _ _ (sb E) w3 Hf3.out (by rw [List.length_append, List.length_singleton]; omega) hs3)
        clear hb3
        go_wp2_with fail
        refine HS.out.mono ?_
        rintro e w4 ⟨rfl, hf4, hb4, -⟩
        rw [He.out, Hst2.out] at hf4
        have Hf4 := Lib.hid hf4
        have Hb4 := Lib.hid (Hb3.out.trans hb4)
        clear hf4 hb4
        go_wp2_with fail
        go_roundg (L.length - (j + 1))
        case measure => omega
        case rel => exact ⟨j + 1, rfl, by omega, by go_num, Hf4, Hb4⟩
    · obtain rfl : j = L.length := by omega
      have HS := Lib.hid (Try.Builder_String_any_k _ _ _ wr Hf.out hsz)
      go_wp2_with fail
      refine HS.out.mono ?_
      rintro e w2 ⟨rfl, -, hb2, -⟩
      have Hb2 := Lib.hid (Hb.out.trans hb2)
      clear hb2
      go_wp2_with fail
      go_ret
      exact ⟨rfl, Hb2.out⟩
end Go.Proofs.Ytgicldokglpimaa
