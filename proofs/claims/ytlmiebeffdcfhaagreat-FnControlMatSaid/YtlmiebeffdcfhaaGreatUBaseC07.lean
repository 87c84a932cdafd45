/- UBaseC07: several of our texts in one: UCpM UApKu UApKp UCmB UCmC. -/
import Derived.Test.YtlmiebeffdcfhaaGreatUBaseC03
import Derived.Test.YtlmiebeffdcfhaaGreatUBaseB19
import Derived.Test.YtlmiebeffdcfhaaGreatUBaseB15
import Derived.Test.YtlmiebeffdcfhaaGreatUApKt
import Derived.Test.YtlmiebeffdcfhaaGreatUBaseC04
import Derived.Test.YtlmiebeffdcfhaaGreatUBaseC02
import Derived.Test.YtlmiebeffdcfhaaGreatUBaseC11
namespace Go.Proofs.YtlmiebeffdcfhaaGreat
def oneZ : Zw := ⟨1, 0, 0, 0⟩
/-- The coefficient from i to j of gates one behind the other, over the root's power of their number. -/
def cl (N : Nat) : List Gt → Nat → Nat → Zw
  | [], i, j => if i = j then oneZ else .zero
  | g :: L, i, j => sumZ N fun m => (cf (goesG g i) m).mul (cl N L m j)
/-- The matrix M represents, over the root's power s, the coefficients C (from the column to the row). -/
def Rep (M : List (List Dw)) (N s : Nat) (C : Nat → Nat → Zw) : Prop :=
  M.length = N ∧ (∀ r ∈ M, r.length = N ∧ ∀ x ∈ r, x.ok) ∧ ∀ k, k < N → ∀ i, i < N → rootN s (vl ((M.getD k []).getD i .zero)) = rootN 60 (C i k)
theorem Rep.row {M : List (List Dw)} {N s : Nat} {C : Nat → Nat → Zw} (h : Rep M N s C) {k : Nat} (hk : k < N) : ∃ r, M[k]? = some r ∧ M.getD k [] = r ∧ r.length = N ∧ ∀ x ∈ r, x.ok := by
  have hl : k < M.length := by rw [h.1]; exact hk
  refine ⟨M[k], List.getElem?_eq_getElem hl, ?_, h.2.1 _ (List.getElem_mem hl)⟩
  rw [List.getD_eq_getElem?_getD, List.getElem?_eq_getElem hl]
  rfl
end Go.Proofs.YtlmiebeffdcfhaaGreat
namespace Go.Proofs.YtlmiebeffdcfhaaGreat
open Go.RowKit
end Go.Proofs.YtlmiebeffdcfhaaGreat
namespace Go.Proofs.YtlmiebeffdcfhaaGreat
open Go.RowKit
end Go.Proofs.YtlmiebeffdcfhaaGreat
namespace Go.Proofs.YtlmiebeffdcfhaaGreat
open Go.RowKit
/-- A matrix that was drawn: its sizes and exponents. -/
def MBd (M : List (List Dw)) : Prop := M.length ≤ 16 ∧ ∀ r ∈ M, Eb r ∧ r.length ≤ 16
def MBp (M : List (List Dw)) : Prop := M.length ≤ 16 ∧ ∀ r ∈ M, Eb r ∧ 1 ≤ r.length ∧ r.length ≤ 16
theorem MBp.bd {M : List (List Dw)} (h : MBp M) : MBd M := ⟨h.1, fun r hr => ⟨(h.2 r hr).1, (h.2 r hr).2.2⟩⟩
theorem ccM_bp (n : Int) (L : List Gt) : MBp (ccM n L) := ⟨ccM_row.1, fun r hr => ⟨(ccM_row.2 r hr).1.eb, (ccM_row.2 r hr).2⟩⟩
theorem MBd.amps {M : List (List Dw)} (h : MBd M) : amps M ≤ 1048576 := by
  have := amps_le16 (M := M) fun r hr => (h.2 r hr).2
  have := h.1
  omega
theorem right_i (B : Nat) (n : Int) (m : Nat) (w : World) (hcur : CurAt w B) (hB : B < w.heap.size) (h1 : 1 ≤ n) (h4 : n ≤ 4) (hm : m ≤ 60) :
    Calls Tryz.prog 46 #[.pointer (some ⟨B, 0, none⟩), .int .i64 n, .int .i64 m] w fun e w' => (∃ v l, e = .returned (.agg #[.int .i64 n, v]) ∧ List.length l ≤ m ∧ gtE.Sl w' w.heap.size v l) ∧ CurAt w' B ∧ Own B w w' := by
  obtain ⟨k, rfl⟩ : ∃ k : Nat, n = k := ⟨n.toNat, by omega⟩
  refine (right_any B k m w hcur hB (by omega) (by omega) hm).mono ?_
  rintro e w1 ⟨⟨v, l, rfl, hl, _, hs⟩, hc, ho⟩
  exact ⟨⟨v, l, rfl, hl, hs⟩, hc, ho⟩
attribute [local irreducible] World.cell?
set_option maxRecDepth 100000 in
set_option maxHeartbeats 3200000 in
theorem mat_any (B : Nat) (w : World) (hcur : CurAt w B) (hB : B < w.heap.size) :
    Calls Tryz.prog 83 #[.pointer (some ⟨B, 0, none⟩)] w fun e w' => (∃ v M, e = .returned v ∧ MBp M ∧ DSM w' w.heap.size w'.heap.size v M) ∧ CurAt w' B ∧ Own B w w' := by
  obtain ⟨i0, hi, hz0, hz1, hz2⟩ := info_parts infoDs
  go_enter Tryz.func83, Tryz.ntmps83
  go_wp2_with fail
  refine (once_any B 6 _ hcur (by omega) (by omega)).mono ?_
  rintro e w1 ⟨⟨x, rfl⟩, hc1, ho1⟩
  have hs1 := ho1.size
  have Hc1 := Lib.hid hc1
  have Ho1 := Lib.hid ho1
  clear hc1 ho1 hcur
  cases x with
  | true =>
    go_wp2_with fail
    refine (below_any B 2 _ Hc1.out (by omega) (by omega)).mono ?_
    rintro e w2 ⟨⟨x, x0, x1, rfl⟩, hc2, ho2⟩
    have hs2 := ho2.size
    have Hc2 := Lib.hid hc2
    have Ho2 := Lib.hid (own_trans Ho1.out ho2)
    clear hc2 ho2 Hc1 Ho1
    obtain ⟨n, hn⟩ : ∃ n : Nat, (1 + x : Int) = n := ⟨(1 + x).toNat, by omega⟩
    obtain ⟨N, hN⟩ : ∃ N, N = 2 ^ n := ⟨_, rfl⟩
    have hN16 : 2 ≤ N ∧ N ≤ 16 := by rw [hN]; rcases (show n = 1 ∨ n = 2 by omega) with rfl | rfl <;> decide
    have hw : wrap64 (2 ^ n) = (N : Int) := by rw [hN]; rcases (show n = 1 ∨ n = 2 by omega) with rfl | rfl <;> decide +kernel
    have hn2 : 1 ≤ n ∧ n ≤ 2 := by omega
    have Hc0 := Lib.hid (Hc2.out.own (own_alloc (own_refl w2.heap.size w2) (.cells #[] 59)) (by omega))
    have Ho0 := Lib.hid (own_alloc Ho2.out (.cells #[] 59))
    have hBD : B < w2.heap.size := by omega
    have hwD : w.heap.size ≤ w2.heap.size := by omega
    have Hn := Lib.hid hn
    clear hN hn Hc2 Ho2
    go_wp2_with fail
    generalize (1 + x : Int) = y at *
    obtain rfl : y = n := Hn.out
    go_loopg [4, 5] N (fun m out i wr => ∃ (j : Nat) (vs : List Value) (M : List (List Dw)), m = N - j ∧ j ≤ N ∧ i = .int .i64 j ∧ M.length = j ∧ Hid (∀ r ∈ M, Eb r ∧ 1 ≤ r.length ∧ r.length ≤ 16) ∧ Hid (wr.ownsRow w2.heap.size 59 1 out j vs) ∧ Hid (RwS wr w2.heap.size wr.heap.size vs M) ∧ Hid (CurAt wr B) ∧ Hid (Own B w wr) ∧ w2.heap.size ≤ wr.heap.size)
    case atStart => exact ⟨0, [], [], rfl, Nat.zero_le _, rfl, rfl, Lib.hid (fun r h => absurd h List.not_mem_nil), ownM_new rfl, RwS.nil, Hc0, Ho0, by simp⟩
    case round =>
      obtain ⟨j, vs, M, rfl, hj, rfl, hl, Hbd, Hown, Hrows, Hc, Ho, hsD⟩ := hrel
      by_cases hlt : j < N
      · have hjl : (j : Int) < N := by omega
        go_wp2_with fail
        refine (vec_any B n _ Hc.out (by omega) (by omega) (by omega)).mono ?_
        rintro e w3 ⟨⟨v, r, rfl, h2, h8, he, hd⟩, hc3, ho3⟩
        have hs3 := ho3.size
        have Hown3 := Lib.hid (row_own Hown.out ho3 hBD)
        have Hrows3 := Lib.hid (Hrows.out.snoc hd.upto hsD hs3 fun k hk _ hlk => ho3.block k hlk (by intro e; injection e with e; omega))
        have Hc3 := Lib.hid hc3
        have Ho3 := Lib.hid (own_trans Ho.out ho3)
        have Hbd3 := Lib.hid (show ∀ s ∈ M ++ [r], Eb s ∧ 1 ≤ s.length ∧ s.length ≤ 16 from fun s h => by
          rcases List.mem_append.1 h with h | h
          · exact Hbd.out s h
          · obtain rfl := List.mem_singleton.1 h; exact ⟨he, by omega, by omega⟩)
        obtain ⟨p, pc, rfl, -, -⟩ := hd
        clear hc3 ho3 he Hown Hrows Hc Ho Hbd
        go_wp2_with (first
          | (at_builtin; refine wpList_append_own _ rfl _ _ 32 rfl w2.heap.size 59 i0 (.slice none 0 0) 1 24 Tryz.underlying32 hi hz0 hz1 hz2 rfl (by decide) _ _ _ rfl (Hown3.out.alloc _) ⟨w3.heap.size, 0, none⟩ 1 1 [.slice p r.length pc] rfl rfl (slice_new _ _ _) (by intro u hu; simp at hu; subst hu; rfl) ?d3 ?d4 ?d5 ?_))
        case d3 => unfold maxLen; omega
        case d4 => omega
        case d5 => first | omega | (simp; omega)
        intro v' w4 hown' hgrow _
        have hge : ∀ k, Value.ownBlock _ = some k → w2.heap.size ≤ k := fun k hk => (Hown3.out.lt k hk).1
        have Ho4 := Lib.hid (own_grown (own_alloc Ho3.out (.cells #[.slice p r.length pc] 59)) hgrow (fun k hk => Nat.le_trans hwD (hge k hk)))
        have Hc4 := Lib.hid ((Hc3.out.below ((Below.refl w3.heap.size w3).alloc (Nat.le_refl _) (.cells #[.slice p r.length pc] 59)) (by omega)).below ((Below.refl w2.heap.size _).grown hgrow (by simp; omega) hge) hBD)
        have Hrows4 := Lib.hid (((Hrows3.out.block fun k _ _ hk => Below.heap_alloc _ _ _ hk).grown (Hown3.out.alloc _) hgrow).upto)
        have Hown4 := Lib.hid hown'
        have hs4 := hgrow.size
        simp at hs4
        clear hown' hgrow hge
        go_wp2_with fail
        go_roundg (N - (j + 1))
        case measure => omega
        case rel => exact ⟨j + 1, _, _, rfl, by omega, by go_num, by simp [hl], Hbd3, Hown4.out, Hrows4, Hc4, Ho4, by omega⟩
      · obtain rfl : j = N := by omega
        have hown := Hown.out
        have Hbp := Lib.hid (show MBp M from ⟨by rw [hl]; exact hN16.2, Hbd.out⟩)
        have hd := Lib.hid ((DSM.of_own (by rw [hl]; exact hown) Hrows.out (Nat.le_refl _)).mono hwD (Nat.le_refl _))
        clear hown
        go_wp2_with fail
        go_returns
        exact ⟨⟨_, rfl, M, Hbp.out, hd.out⟩, Hc.out, Ho.out⟩
  | false =>
    go_wp2_with fail
    refine (below_any B 3 _ Hc1.out (by omega) (by omega)).mono ?_
    rintro e w2 ⟨⟨x, x0, x1, rfl⟩, hc2, ho2⟩
    have hs2 := ho2.size
    have Hc2 := Lib.hid hc2
    have Ho2 := Lib.hid (own_trans Ho1.out ho2)
    clear hc2 ho2 Hc1 Ho1
    go_wp2_with fail
    refine (right_i B (1 + x) 8 _ Hc2.out (by omega) (by omega) (by omega) (by omega)).mono ?_
    rintro e w3 ⟨⟨v, l, rfl, hl, hsl⟩, hc3, ho3⟩
    have hs3 := ho3.size
    have Hcc := Lib.hid (scirc _ (1 + x) v l w3 hsl (by omega))
    have Hbp := Lib.hid (ccM_bp (1 + x) l)
    have Hc3 := Lib.hid hc3
    have Ho3 := Lib.hid (own_trans Ho2.out ho3)
    generalize ccM (1 + x) l = M at *
    generalize ccB (1 + x) l = T at *
    clear hc3 ho3 hsl Hc2 Ho2
    go_wp2_with fail
    refine (Hcc.out).mono ?_
    rintro e w4 ⟨⟨r, rfl, hd⟩, hb4⟩
    have Hd := Lib.hid (hd.mono (D := w.heap.size) (E := w4.heap.size) (by omega) (Nat.le_refl _))
    have Hc4 := Lib.hid (Hc3.out.below hb4 (by omega))
    have Ho4 := Lib.hid (own_trans Ho3.out (own_of_below hb4))
    clear hd hb4
    go_wp2_with fail
    go_returns
    exact ⟨⟨_, M, rfl, Hbp.out, Hd.out⟩, Hc4.out, Ho4.out⟩
end Go.Proofs.YtlmiebeffdcfhaaGreat
namespace Go.Proofs.YtlmiebeffdcfhaaGreat
open Go.RowKit
theorem MRow.len {w : World} {B C g : Nat} {M : List (List Dw)} (h : MRow w B C g M) : RwS w B C (h.choose.toList.take M.length) M := by
  obtain ⟨vs, h1, h2, h3⟩ := h.choose_spec
  rw [h2]; exact h3
/-- Row k, and what its first amplitude's turn makes of the matrix. -/
theorem MRow.row {w : World} {B C g : Nat} {M : List (List Dw)} (h : MRow w B C g M) {k : Nat} {r : List Dw} (hr : M[k]? = some r) (hl : 0 < r.length) :
    ∃ b pc, w.cell? ⟨g, k, none⟩ = some (.slice (some ⟨b, 0, none⟩) r.length pc) ∧ B ≤ b ∧ b < w.heap.size ∧ DRow w b r ∧ ∀ z : Dw,
      MRow (((((w.setCell ⟨b, 0, none⟩ (.int .i64 z.n.a)).setCell ⟨b, 1, none⟩ (.int .i64 z.n.b)).setCell ⟨b, 2, none⟩ (.int .i64 z.n.c)).setCell ⟨b, 3, none⟩ (.int .i64 z.n.d)).setCell ⟨b, 4, none⟩ (.int .i64 z.e)) B C g (M.set k (r.set 0 z)) := by
  obtain ⟨a, cap, b, c, hc, h1, h2, h3, hd, hk⟩ := h.turn hr
  obtain ⟨a', cap', e, hcap, hrow⟩ := hd
  obtain ⟨b', e', hb, hc', hR⟩ := hrow hl
  injection e with e1 e2 e3
  subst e1 e3
  subst e'
  refine ⟨b', cap, hc, by omega, hR.lt, hR, fun z => ?_⟩
  refine hk _ (r.set 0 z) (by simp) ⟨_, _, by rw [List.length_set], by rw [List.length_set]; exact hcap, fun _ => ⟨b', rfl, hb, hc', hR.put 0 hl z⟩⟩ ?_
  exact (((((Mid.refl b c w).set hb hc' _).set hb hc' _).set hb hc' _).set hb hc' _).set hb hc' _
theorem MRow.own {w w' : World} {B C D g : Nat} {M : List (List Dw)} (h : MRow w D C g M) (ho : Own B w w') (hB : B < D) (hg : D ≤ g) : MRow w' D C g M :=
  h.block (ho.block g h.lt (by intro e; injection e with e; omega)) fun k hk _ hl => ho.block k hl (by intro e; injection e with e; omega)
theorem own_cell {B g o : Nat} {w w' : World} (ho : Own B w w') (hl : g < w.heap.size) (hn : g ≠ B) : w'.cell? ⟨g, o, none⟩ = w.cell? ⟨g, o, none⟩ :=
  World.cell?_of_block (ho.block g hl (by intro e; injection e with e; omega))
theorem drew_cell {w : World} {p : Addr} : w.drew.cell? p = w.cell? p := rfl
theorem MBd.set {M : List (List Dw)} (h : MBd M) (k : Nat) {r : List Dw} (he : Eb r) (hl : r.length ≤ 16) : MBd (M.set k r) :=
  ⟨by rw [List.length_set]; exact h.1, fun s hs => by
    rcases List.mem_or_eq_of_mem_set hs with hs | rfl
    · exact h.2 s hs
    · exact ⟨he, hl⟩⟩
theorem MRow.take {w : World} {B C g : Nat} {M : List (List Dw)} (h : MRow w B C g M) (k : Nat) : MRow w B C g (M.take k) := by
  obtain ⟨cs, vs, h1, h2, h3, G, h4, h5⟩ := h
  refine ⟨cs, _, h1, rfl, ?_, G, fun j v r hv hr => ?_, fun i j r s hr hs => ?_⟩
  · rw [List.length_take, List.length_take, Array.length_toList]
    have := h3
    rw [← h2, List.length_take, Array.length_toList] at this
    omega
  · rw [List.getElem?_take] at hr
    split at hr
    · refine h4 j v r ?_ hr
      rw [← h2]
      rw [List.getElem?_take] at hv ⊢
      split at hv
      · rw [if_pos (by rw [List.length_take] at *; omega)]; exact hv
      · cases hv
    · cases hr
  · rw [List.getElem?_take] at hr hs
    split at hr
    · split at hs
      · exact h5 i j r s hr hs
      · cases hs
    · cases hr
attribute [local irreducible] World.cell?
set_option maxRecDepth 100000 in
set_option maxHeartbeats 3200000 in
theorem bentM (B : Nat) (w : World) (hcur : CurAt w B) (hB : B < w.heap.size) :
    Calls Tryz.prog 52 #[.pointer (some ⟨B, 0, none⟩)] w fun e w' => (∃ v M, e = .returned v ∧ MBd M ∧ DSM w' w.heap.size w'.heap.size v M) ∧ CurAt w' B ∧ Own B w w' := by
  go_enter Tryz.func52, Tryz.ntmps52
  go_wp2_with fail
  refine (mat_any B _ hcur hB).mono ?_
  rintro e w1 ⟨⟨v, M, rfl, hbp, hd⟩, hc1, ho1⟩
  have hs1 := ho1.size
  have Hbp := Lib.hid hbp
  have Hbd := Lib.hid hbp.bd
  have Hd := Lib.hid hd
  have Hc1 := Lib.hid hc1
  have Ho1 := Lib.hid ho1
  have h16 := hbp.1
  obtain ⟨a, cap, rfl, hcap, hr⟩ := hd
  clear hc1 ho1 hcur hbp
  by_cases h0 : M.length = 0
  · have Hd0 := Lib.hid (show DSM w1 w.heap.size w1.heap.size (.slice a 0 cap) M by rw [← h0]; exact Hd.out)
    rw [h0]
    clear hr Hd
    go_wp2_with fail
    go_ret
    exact ⟨⟨_, M, rfl, Hbd.out, Hd0.out⟩, Hc1.out, Ho1.out⟩
  · have e0 : ((M.length : Int) == 0) = false := by simpa using h0
    obtain ⟨g, rfl, hg, hgl, hrow⟩ := hr (by omega)
    have Hrow := Lib.hid hrow
    clear hrow hr Hd
    go_wp2_with fail
    refine (below_any B (M.length : Int) _ Hc1.out (by omega) (by omega)).mono ?_
    rintro e w2 ⟨⟨k, k0, k1, rfl⟩, hc2, ho2⟩
    obtain ⟨k, rfl⟩ : ∃ n : Nat, k = n := ⟨k.toNat, by omega⟩
    have hs2 := ho2.size
    have Hrow2 := Lib.hid (Hrow.out.own ho2 hB hg)
    have Hc2 := Lib.hid hc2
    have Ho2 := Lib.hid (own_trans Ho1.out ho2)
    clear hc2 ho2 Hc1 Ho1 Hrow
    go_wp2_with fail
    refine (below_any B 10 _ Hc2.out (by omega) (by omega)).mono ?_
    rintro e w3 ⟨⟨y, y0, y1, rfl⟩, hc3, ho3⟩
    have hs3 := ho3.size
    have hrow3 := Hrow2.out.own ho3 hB hg
    obtain ⟨r, hr⟩ : ∃ r, M[k]? = some r := ⟨M[k], List.getElem?_eq_getElem (by omega)⟩
    have hrm := Hbp.out.2 r (List.mem_of_getElem? hr)
    obtain ⟨b, pc, hcell, hDb, hbl, hR, -⟩ := hrow3.row hr (by omega)
    have hr16 := hrm.2.2
    have hr1 := hrm.2.1
    have hr0 : 0 < r.length := by omega
    have Heb := Lib.hid hrm.1
    have Hrow3 := Lib.hid hrow3
    have HR := Lib.hid hR
    have Hr := Lib.hid hr
    have Hc3 := Lib.hid hc3
    have Ho3 := Lib.hid (own_trans Ho2.out ho3)
    clear hc3 ho3 Hc2 Ho2 Hrow2 hrow3 hR hr hrm
    by_cases hy0 : y = 0
    · subst hy0
      go_wp2_with fail
      refine (bentS B _ Hc3.out (by omega)).mono ?_
      rintro e w4 ⟨⟨u, l, rfl, hl8, he, hd⟩, hc4, ho4⟩
      have hs4 := ho4.size
      have hrow4 := Hrow3.out.own ho4 hB hg
      have fg := fun o => hrow4.free o
      obtain ⟨a2, cap2, hc2, hd2⟩ := hrow4.cell Hr.out
      have Hput := Lib.hid ((hrow4.mono (D := w.heap.size) (E := w3.heap.size) (Nat.le_refl _) (by omega)).put (w' := w4) (j := k) (by omega) hd.upto (by omega) (by omega) fun _ _ => rfl)
      have Hbd4 := Lib.hid (Hbd.out.set k he (by omega))
      have Hc4 := Lib.hid hc4
      have Ho4 := Lib.hid (own_trans Ho3.out ho4)
      have Ho5 := Lib.hid (own_dn Ho4.out k u hg)
      have Hc5 := Lib.hid (Hc4.out.own (C := g) (own_set (own_refl g w4) k u) (by omega))
      have hgl4 := hrow4.lt
      obtain ⟨p5, pc5, rfl, -, -⟩ := hd
      clear he hc4 ho4 hrow4 hd2 Hc4 Ho4 hcell
      go_wp2_with fail
      go_ret
      refine ⟨⟨_, M.set k l, rfl, Hbd4.out, ⟨some ⟨g, 0, none⟩, cap, by rw [List.length_set]; rfl, by rw [List.length_set]; exact hcap, fun _ => ⟨g, rfl, hg, ?_, ?_⟩⟩⟩, Hc5.out, Ho5.out⟩
      · simpa [World.setCell] using hgl4
      · exact Hput.out.mono (Nat.le_refl _) (by simp [World.setCell])
    · have ey0 : (y == 0) = false := by simpa using hy0
      by_cases hy1 : y = 1
      · subst hy1
        go_upto_region 9 with fail
        have hcelld : w3.drew.cell? ⟨g, k, none⟩ = some (.slice (some ⟨b, 0, none⟩) r.length pc) := drew_cell.trans hcell
        have Hrd := Lib.hid (show MRow w3.drew w.heap.size w1.heap.size g M from Hrow3.out)
        have Hbt := Lib.hid (bent_any B w3.drew Hc3.out.drew (by show B < w3.heap.size; omega))
        have hsd : w3.drew.heap.size = w3.heap.size := rfl
        go_region_law (first
          | ((go_simp; go_at_call 85; (with_reducible refine (Hbt.out).mono ?_); rintro e w4 ⟨⟨z, rfl, ze⟩, hc4, ho4⟩; have hcell4 := (own_cell (o := k) ho4 (by omega) (by omega)).trans hcelld; have hrow4 := Hrd.out.own ho4 hB hg; obtain ⟨b2, pc2, hcl2, hD2, hl2, hR4, hput⟩ := hrow4.row Hr.out (by omega); have heq := hcl2.symm.trans hcell4; simp only [Option.some.injEq, Value.slice.injEq, Addr.mk.injEq, true_and, and_true] at heq; obtain ⟨rfl, rfl⟩ := heq; obtain ⟨u, hu⟩ : ∃ u, r[0]? = some u := ⟨r[0], List.getElem?_eq_getElem (by omega)⟩; obtain ⟨c0, c1, c2, c3, c4⟩ := hR4.cells hu; simp only [Nat.zero_mul, Nat.zero_add] at c0 c1 c2 c3 c4; have f4 := fun o => hR4.free o)))
        all_goals
          have Hput := Lib.hid (hput z)
          have hs4 := ho4.size
          have Hbd4 := Lib.hid (Hbd.out.set k (Heb.out.set 0 ze) (by simpa using hr16))
          have Ho4 := Lib.hid (own_trans Ho3.out (show Own B w3 w4 from ⟨ho4.os, ho4.tape, ho4.output, ho4.size, ho4.block⟩))
          have Ho5 := Lib.hid (own_dn (own_dn (own_dn (own_dn (own_dn Ho4.out 0 (.int .i64 z.n.a) hD2) 1 (.int .i64 z.n.b) hD2) 2 (.int .i64 z.n.c) hD2) 3 (.int .i64 z.n.d) hD2) 4 (.int .i64 z.e) hD2)
          have Hc5 := Lib.hid (hc4.own (C := b2) (own_set (own_set (own_set (own_set (own_set (own_refl b2 w4) 0 (.int .i64 z.n.a)) 1 (.int .i64 z.n.b)) 2 (.int .i64 z.n.c)) 3 (.int .i64 z.n.d)) 4 (.int .i64 z.e)) (by omega))
          have hgl4 := hrow4.lt
          clear hput hc4 ho4 hrow4 hcl2 hR4 c0 c1 c2 c3 c4 f4 Hrd Hbt
          go_wp2_with fail
          go_ret
          refine ⟨⟨_, M.set k (r.set 0 z), rfl, Hbd4.out, ⟨some ⟨g, 0, none⟩, cap, by rw [List.length_set]; rfl, by rw [List.length_set]; exact hcap, fun _ => ⟨g, rfl, hg, ?_, ?_⟩⟩⟩, Hc5.out, Ho5.out⟩
          · simpa [World.setCell] using hgl4
          · exact Hput.out.mono (Nat.le_refl _) (by simp [World.setCell]; omega)
      · have ey1 : (y == 1) = false := by simpa using hy1
        by_cases hy2 : y = 2
        · subst hy2
          go_wp2_with fail
          go_ret
          have ek : (M.take k).length = k := by rw [List.length_take]; omega
          refine ⟨⟨_, M.take k, rfl, ⟨by omega, fun s hs => Hbd.out.2 s (List.mem_of_mem_take hs)⟩, ⟨some ⟨g, 0, none⟩, cap, by rw [ek]; first | rfl | simp, by omega, fun _ => ⟨g, rfl, hg, by omega, (Hrow3.out.take k).mono (Nat.le_refl _) (by omega)⟩⟩⟩, Hc3.out, Ho3.out⟩
        · have ey2 : (y == 2) = false := by simpa using hy2
          go_wp2_with fail
          go_ret
          exact ⟨⟨_, M, rfl, Hbd.out, ⟨_, _, rfl, hcap, fun _ => ⟨g, rfl, hg, by omega, Hrow3.out.mono (Nat.le_refl _) (by omega)⟩⟩⟩, Hc3.out, Ho3.out⟩
end Go.Proofs.YtlmiebeffdcfhaaGreat
