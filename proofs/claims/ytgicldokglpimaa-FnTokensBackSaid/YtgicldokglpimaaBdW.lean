/- The library's writers at a builder that the call has made: copyCheck, WriteByte, WriteString: over lists of bytes. -/
import Derived.Test.YtgicldokglpimaaBaseB01
import Derived.Lib.OthersKept
import Derived.Lib.FrozenHead2
import Derived.Lib.Builder
import Derived.BigCall
import Derived.WalkKit
import Derived.ProofKit
import Derived.IntWalk
import Derived.Handy
namespace Go.Proofs.Ytgicldokglpimaa
open Go.RowKit
/-- A builder in block b that holds the bytes l (fresh or written). -/
abbrev BdI (B b : Nat) (l : List UInt8) (w : World) : Prop := Lib.IsBuilderF 51 5 B b (Lib.byteCells l) w
theorem sizeBd : (Try.prog.info? 51).map (·.size) = some 2 := by kernel_rfl
theorem liesBd : liesAt Try.prog Try.prog.depth 51 (2 / Try.prog.cellsOf 51) 0 51 1 = true := by kernel_rfl
theorem infoU8 : (Try.prog.info? 5).map (fun i => (i.zero, i.size, i.bytes)) = some (some (.int .u8 0), 1, 1) := by kernel_rfl
theorem extNo : Try.prog.funcs[48]? = some Try.f48 := Try.func48
set_option maxRecDepth 100000 in
set_option maxHeartbeats 1000000 in
theorem bdCheck (B b : Nat) (bs : List Value) (w : World) (h : Lib.IsBuilderF 51 5 B b bs w) :
    Calls Try.prog 45 #[.pointer (some ⟨b, 0, none⟩)] w fun e w' => e = .returned (.tuple #[]) ∧ Lib.BuilderAtF 51 5 B b (.pointer (some ⟨b, 0, none⟩)) bs w' ∧ Below B w w' ∧ Lib.OthersKept 5 (some b) w w' := by
  obtain ⟨j, hj, hjs⟩ := Option.map_eq_some_iff.1 sizeBd
  rcases h with h | h
  · have c0 := h.cell0
    have z0 := h.frozen0
    have s0 := h.shape
    go_enter Try.func45, Try.ntmps45
    go_wp2_with fail
    rw [Lib.run_to_unsafe w ⟨b, 0, none⟩ Try.underlying49 Try.underlying73 hj (by rw [hjs]; decide) s0 (Nat.zero_lt_succ 1)]
    simp only [Result.andThen]
    rw [Oper.upon_value]
    go_wp2_with fail
    rw [run_callFunc_extern extNo (by kernel_rfl) (by kernel_rfl) (by kernel_rfl) (e := Extern.AbiNoEscape.same) (by kernel_rfl), Lib.run_noEscape]
    simp only [Result.andThen]
    rw [Oper.upon_value]
    go_wp2_with fail
    rw [Lib.run_from_unsafe w ⟨b, 0, none⟩ Try.underlying73 Try.underlying49 hj s0 liesBd]
    simp only [Result.andThen]
    rw [Oper.upon_value]
    go_wp2_with fail
    go_end0
    exact ⟨rfl, h.used _, (Below.refl B w).setCell (p := ⟨b, 0, none⟩) h.1 _, (Lib.OthersKept.refl _ _ w).setCell ⟨b, 0, none⟩ rfl _⟩
  · have c0 := h.cell0
    go_enter Try.func45, Try.ntmps45
    go_wp2_with fail
    rw [Lib.run_neq_ptr_same w _ Try.underlying49 hj]
    go_wp2_with fail
    go_end0
    exact ⟨rfl, h, Below.refl _ _, Lib.OthersKept.refl _ _ _⟩
theorem neBd : (51 : TypeId) ≠ 5 := by decide
/-- What an append to the builder's row leaves, once the row is stored. -/
theorem bd_after {B b : Nat} {w w1 w2 : World} {p v v' : Value} {bs' : List Value} (hB : B ≤ b) (h2 : w2.heap[b]? = some (.cells #[p, v] 51 (0, 0)))
    (hown : w2.ownsRowF B 5 1 v' bs'.length bs') (hv : ∀ q, v.ownBlock = some q → B ≤ q) (hk : ∀ q, v.ownBlock = some q → ∃ c fz, w1.heap[q]? = some (.cells c 5 fz))
    (hb1 : Below B w w1) (hs : B ≤ w1.heap.size) (k1 : Lib.OthersKept 5 (some b) w w1) (hg : w1.grownBy w2 v.ownBlock) :
    Lib.BuilderAtF 51 5 B b p bs' (w2.setCell ⟨b, 1, none⟩ v') ∧ Below B w (w2.setCell ⟨b, 1, none⟩ v') ∧ Lib.OthersKept 5 (some b) w (w2.setCell ⟨b, 1, none⟩ v') :=
  ⟨Lib.BuilderAtF.put hB h2 hown neBd, (hb1.grown hg hs hv).setCell (p := ⟨b, 1, none⟩) hB _, (k1.grown hg hk).setCell ⟨b, 1, none⟩ rfl _⟩
set_option maxRecDepth 100000 in
set_option maxHeartbeats 2000000 in
theorem bdByte (B b : Nat) (l : List UInt8) (c : UInt8) (w : World) (h : BdI B b l w) (hl : l.length + 1 ≤ 140737488355328) (hw : B ≤ w.heap.size) :
    Calls Try.prog 32 #[.pointer (some ⟨b, 0, none⟩), .int .u8 (c.toNat : Int)] w fun e w' => e = .returned .nilIface ∧ BdI B b (l ++ [c]) w' ∧ Below B w w' ∧ Lib.OthersKept 5 (some b) w w' := by
  obtain ⟨i0, hi, hz0, hz1, hz2⟩ := info_parts infoU8
  have Hc := Lib.hid (bdCheck B b _ w h)
  go_enter Try.func32, Try.ntmps32
  go_wp2_with fail
  refine Hc.out.mono ?_
  rintro e w1 ⟨rfl, ⟨hB, v, hbk, hown, hne⟩, hb1, k1⟩
  have hs1 := hb1.size
  have hlt := lt_of_block hbk
  have c0 : w1.cell? ⟨b, 0, none⟩ = some (.pointer (some ⟨b, 0, none⟩)) := by rw [Lib.cell_of_heap hbk]; rfl
  have c1 : w1.cell? ⟨b, 1, none⟩ = some v := by rw [Lib.cell_of_heap hbk]; rfl
  have hll := Lib.byteCells_length l
  go_wp2_with (at_builtin; refine wpList_append_ownF _ rfl _ _ 22 rfl B 5 i0 (.int .u8 0) 1 1 Try.underlying22 hi hz0 hz1 hz2 rfl (by decide) _ _ _ rfl (hown.alloc _) ⟨w1.heap.size, 0, none⟩ 1 1 [.int .u8 (c.toNat : Int)] rfl rfl ?d1 ?d2 ?d3 ?d4 ?d5 ?_)
  case d1 =>
    intro j u hj
    match j, hj with
    | 0, hj => simp at hj; subst hj; simp [Addr.add]
  case d2 => intro u hu; simp at hu; subst hu; rfl
  case d3 => unfold maxLen; omega
  case d4 => omega
  case d5 => simp; omega
  intro v' w2 hown' hgrow _
  have h2 : w2.heap[b]? = some (.cells #[.pointer (some ⟨b, 0, none⟩), v] 51 (0, 0)) := by
    rw [hgrow.block b (by simp; omega) (fun e => hne e.symm), Lib.alloc_old w1 _ b hlt]
    exact hbk
  have d1 : w2.cell? ⟨b, 1, none⟩ = some v := by rw [Lib.cell_of_heap h2]; rfl
  have f1 : w2.frozen? ⟨b, 1, none⟩ = false := Lib.frozen_of_heap h2 1
  have e9 : Lib.byteCells l ++ [.int .u8 (c.toNat : Int)] = Lib.byteCells (l ++ [c]) := by rw [Lib.byteCells_append]; rfl
  have HA := Lib.hid (bd_after (B := B) (b := b) (w := w) (bs' := Lib.byteCells (l ++ [c])) hB h2 (by rw [← e9]; simpa [Lib.byteCells_length] using hown') (fun q hq => (hown.lt q hq).1) (Lib.ownsRowF_kind (hown.alloc _)) (hb1.alloc (by omega) _) (by simp; omega) (k1.alloc _) hgrow)
  obtain ⟨a', n', p', rfl⟩ : ∃ a' n' p', v' = .slice a' n' p' := by
    rcases hown'.2 with ⟨hv, _⟩ | ⟨g, cap, cur, fz, hv, _⟩
    · exact ⟨_, _, _, hv⟩
    · exact ⟨_, _, _, hv⟩
  go_wp2_with fail
  go_ret
  exact ⟨rfl, .inr HA.out.1, HA.out.2⟩
set_option maxRecDepth 100000 in
set_option maxHeartbeats 2000000 in
theorem bdStr (B b : Nat) (l : List UInt8) (s : ByteArray) (w : World) (h : BdI B b l w) (hl : l.length + s.size ≤ 140737488355328) (hw : B ≤ w.heap.size) :
    Calls Try.prog 33 #[.pointer (some ⟨b, 0, none⟩), .string s] w fun e w' => e = .returned (.tuple #[.int .i64 s.size, .nilIface]) ∧ BdI B b (l ++ s.data.toList) w' ∧ Below B w w' ∧ Lib.OthersKept 5 (some b) w w' := by
  obtain ⟨i0, hi, hz0, hz1, hz2⟩ := info_parts infoU8
  have Hc := Lib.hid (bdCheck B b _ w h)
  go_enter Try.func33, Try.ntmps33
  go_wp2_with fail
  refine Hc.out.mono ?_
  rintro e w1 ⟨rfl, ⟨hB, v, hbk, hown, hne⟩, hb1, k1⟩
  have hs1 := hb1.size
  have hlt := lt_of_block hbk
  have c0 : w1.cell? ⟨b, 0, none⟩ = some (.pointer (some ⟨b, 0, none⟩)) := by rw [Lib.cell_of_heap hbk]; rfl
  have c1 : w1.cell? ⟨b, 1, none⟩ = some v := by rw [Lib.cell_of_heap hbk]; rfl
  have hll := Lib.byteCells_length l
  go_wp2_with (at_builtin; refine Lib.wpList_append_own_stringF _ rfl _ _ 22 9 rfl B 5 i0 Try.underlying22 Try.underlying9 hi hz0 hz1 hz2 _ _ _ rfl hown s rfl ?d3 ?d4 ?d5 ?_)
  case d3 => unfold maxLen; omega
  case d4 => omega
  case d5 => omega
  intro v' w2 hown' hgrow _
  have h2 : w2.heap[b]? = some (.cells #[.pointer (some ⟨b, 0, none⟩), v] 51 (0, 0)) := by
    rw [hgrow.block b hlt (fun e => hne e.symm)]
    exact hbk
  have d1 : w2.cell? ⟨b, 1, none⟩ = some v := by rw [Lib.cell_of_heap h2]; rfl
  have f1 : w2.frozen? ⟨b, 1, none⟩ = false := Lib.frozen_of_heap h2 1
  have e9 : Lib.byteCells l ++ Lib.strCells s = Lib.byteCells (l ++ s.data.toList) := by rw [Lib.byteCells_append, Lib.strCells_eq]
  have HA := Lib.hid (bd_after (B := B) (b := b) (w := w) (bs' := Lib.byteCells (l ++ s.data.toList)) hB h2 (by rw [← e9]; simpa [Lib.strCells_length, Lib.byteCells_length] using hown') (fun q hq => (hown.lt q hq).1) (Lib.ownsRowF_kind hown) hb1 (by omega) k1 hgrow)
  obtain ⟨a', n', p', rfl⟩ : ∃ a' n' p', v' = .slice a' n' p' := by
    rcases hown'.2 with ⟨hv, _⟩ | ⟨g, cap, cur, fz, hv, _⟩
    · exact ⟨_, _, _, hv⟩
    · exact ⟨_, _, _, hv⟩
  go_wp2_with fail
  go_returns
  exact ⟨rfl, .inr HA.out.1, HA.out.2⟩
end Go.Proofs.Ytgicldokglpimaa
