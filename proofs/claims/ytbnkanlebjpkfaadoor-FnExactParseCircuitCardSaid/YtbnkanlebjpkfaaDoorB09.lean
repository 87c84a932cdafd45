/- B09: several of our texts in one: ZwDraw ZwDraw2 MarkS EqS SplitS CopyS JoinS. -/
import Derived.Test.YtbnkanlebjpkfaaDoorB02
import Derived.Test.YtbnkanlebjpkfaaDoorZwS
import Derived.Test.YtbnkanlebjpkfaaDoorB01
import Derived.Test.YtbnkanlebjpkfaaDoorB06
import Derived.Deep.RegionHeld3
import Derived.Deep.QuietTactic
import Derived.BigQuiet
import Derived.Lib.AppendStr
import Derived.Lib.Join
namespace Go.Proofs.YtbnkanlebjpkfaaDoor
open Go.RowKit
attribute [local irreducible] World.cell?
theorem alloc_blk {g : Nat} {W : World} {o : Obj} (p : Obj) (hk : W.heap[g]? = some o) : (W.alloc p).heap[g]? = some o := by
  rw [Below.heap_alloc _ _ _ (lt_of_block hk)]; exact hk
end Go.Proofs.YtbnkanlebjpkfaaDoor
namespace Go.Proofs.YtbnkanlebjpkfaaDoor
open Go.RowKit
attribute [local irreducible] World.cell?
theorem below_blk {B g : Nat} {W w1 : World} {o : Obj} (h : Below B W w1) (hg : g < B) (hk : W.heap[g]? = some o) : w1.heap[g]? = some o := by
  rw [h.block g hg]; exact hk
theorem set4_at {g : Nat} {W : World} {t : TypeId} {z0 z1 z2 z3 u0 u1 u2 u3 : Value} (h : W.heap[g]? = some (.cells #[z0, z1, z2, z3] t (0, 0))) :
    ((((W.setCell ⟨g, 0, none⟩ u0).setCell ⟨g, 1, none⟩ u1).setCell ⟨g, 2, none⟩ u2).setCell ⟨g, 3, none⟩ u3).heap[g]? = some (.cells #[u0, u1, u2, u3] t (0, 0)) :=
  heap_set (heap_set (heap_set (heap_set h 0 u0) 1 u1) 2 u2) 3 u3
theorem blk_cells {g : Nat} {W : World} {t : TypeId} {z0 z1 z2 z3 : Value} (h : W.heap[g]? = some (.cells #[z0, z1, z2, z3] t (0, 0))) :
    W.cell? ⟨g, 0, none⟩ = some z0 ∧ W.cell? ⟨g, 1, none⟩ = some z1 ∧ W.cell? ⟨g, 2, none⟩ = some z2 ∧ W.cell? ⟨g, 3, none⟩ = some z3 :=
  ⟨cell_at h 0 _ rfl, cell_at h 1 _ rfl, cell_at h 2 _ rfl, cell_at h 3 _ rfl⟩
end Go.Proofs.YtbnkanlebjpkfaaDoor
namespace Go.Proofs.YtbnkanlebjpkfaaDoor
open Go.RowKit
/-- A string cell and the world behind which it lies. -/
def CellIn (W : World) (a : Addr) (s : ByteArray) (w : World) : Prop := w.cell? a = some (.string s) ∧ a.block < w.heap.size ∧ Below W.heap.size W w
theorem CellIn.drew {W w : World} {a : Addr} {s : ByteArray} (h : CellIn W a s w) : CellIn W a s w.drew := ⟨h.1, h.2.1, h.2.2.drew⟩
theorem CellIn.below {W w w' : World} {a : Addr} {s : ByteArray} (h : CellIn W a s w) (hb : Below w.heap.size w w') : CellIn W a s w' :=
  ⟨by rw [hb.cell h.2.1]; exact h.1, Nat.lt_of_lt_of_le h.2.1 hb.size, h.2.2.trans (hb.mono h.2.2.size)⟩
end Go.Proofs.YtbnkanlebjpkfaaDoor
namespace Go.Proofs.YtbnkanlebjpkfaaDoor
open Go.RowKit
end Go.Proofs.YtbnkanlebjpkfaaDoor
namespace Go.Proofs.YtbnkanlebjpkfaaDoor
open Go.RowKit Go.Lib
theorem infoStr : (Tryd.prog.info? 9).map (fun i => (i.zero, i.size, i.bytes)) = some (some (.string ⟨#[]⟩), 1, 16) := by kernel_rfl
set_option maxRecDepth 100000 in
set_option maxHeartbeats 400000 in
theorem split_any (s : ByteArray) (c : UInt8) (w : World) (hs : s.size ≤ 1048576) :
    Calls Tryd.prog 34 #[.string s, .int .u8 c.toNat] w fun e w' => (∃ v, e = .returned v ∧ w'.ownsRow w.heap.size 9 1 v (pcs c s).length ((pcs c s).map Value.string)) ∧ Below w.heap.size w w' := by
  obtain ⟨i0, hi, hz0, hz1, hz2⟩ := info_parts infoStr
  go_enter Tryd.func34, Tryd.ntmps34
  go_wp2_with fail
  go_loopw [5, 6, 7] (fun v fr i wr => ∃ (k f : Nat) (done : List ByteArray), i = .int .i64 k ∧ fr = .int .i64 f ∧ wr.ownsRow w.heap.size 9 1 v done.length (done.map Value.string) ∧ done.length ≤ k ∧ Below w.heap.size w wr ∧
      ((k ≤ s.size ∧ f ≤ k ∧ (∀ j, f ≤ j → j < k → s.data.toList[j]? ≠ some c) ∧ done ++ pcs c (s.extract f s.size) = pcs c s) ∨ (k = s.size + 1 ∧ done = pcs c s))) (fun _ _ i _ => s.size + 1 - (intOf i).toNat)
  case atStart => exact ⟨0, 0, [], rfl, rfl, World.ownsRow_lit _ #[] 0 (Nat.le_refl _) (Nat.zero_le _) rfl, Nat.zero_le _, (Below.refl _ _).alloc (Nat.le_refl _) _, Or.inl ⟨Nat.zero_le _, Nat.le_refl _, fun j _ h => absurd h (by omega), by rw [pcs_whole]; rfl⟩⟩
  case round =>
    obtain ⟨k, f, done, rfl, rfl, hown, hdl, hbel, hst⟩ := hrel
    have Hown := Lib.hid hown
    have Hbel := Lib.hid hbel
    have hsz := hbel.size
    clear hown hbel
    rcases hst with ⟨hk, hfk, hno, hdone⟩ | ⟨rfl, hdone⟩
    · have Hno := Lib.hid hno
      have Hdone := Lib.hid hdone
      clear hno hdone
      by_cases hend : k = s.size
      · subst hend
        have he : ((s.size : Int) == s.size) = true := by simp
        go_wp2_with (first
          | (at_builtin; refine wpList_append_own _ rfl _ _ 51 rfl w.heap.size 9 i0 (.string ⟨#[]⟩) 1 16 Tryd.underlying51 hi hz0 hz1 hz2 rfl (by decide) _ _ _ rfl (Hown.out.alloc _) ⟨wr.heap.size, 0, none⟩ 1 1 [.string (s.extract f s.size)] rfl rfl ?e1 ?e2 ?e3 ?e4 ?e5 ?_))
        case e1 =>
          intro j u hj
          match j, hj with
          | 0, hj => simp at hj; subst hj; simp [Addr.add]
        case e2 => intro u hu; simp at hu; subst hu; rfl
        case e3 => unfold maxLen; omega
        case e4 => omega
        case e5 => simp; omega
        intro v' w1 hown' hgrow _
        have hb1 := ((Hbel.out.alloc (by omega) (.cells #[.string (s.extract f s.size)] 9)).grown hgrow (by simp; omega) (fun q hq => by have := Hown.out.lt q hq; omega))
        have Hown1 := Lib.hid hown'
        have Hb1 := Lib.hid hb1
        clear hown' hgrow hb1
        go_wp2_with fail
        go_roundw
        case rel =>
          refine ⟨s.size + 1, s.size + 1, done ++ [s.extract f s.size], by go_num, by go_num, by simpa using Hown1.out, by simp; omega, Hb1.out, ?_⟩
          refine Or.inr ⟨rfl, ?_⟩
          rw [← Hdone.out, pcs_last c s f (fun j a b => Hno.out j a b)]
        case measure => first | (simp [intOf]; done) | (simp [intOf]; omega)
      · have hlt : k < s.size := by omega
        have he : ((k : Int) == s.size) = false := by simp; omega
        have hget : s.data.toList[k]? = some s[k] := by rw [List.getElem?_eq_getElem (by simpa using hlt)]; rfl
        have Hget := Lib.hid hget
        clear hget
        by_cases hc : s[k] = c
        · have hq : ((s[k].toNat : Int) == c.toNat) = true := by rw [hc]; simp
          have Hc := Lib.hid hc
          clear hc
          go_wp2_with (first
            | (at_builtin; refine wpList_append_own _ rfl _ _ 51 rfl w.heap.size 9 i0 (.string ⟨#[]⟩) 1 16 Tryd.underlying51 hi hz0 hz1 hz2 rfl (by decide) _ _ _ rfl (Hown.out.alloc _) ⟨wr.heap.size, 0, none⟩ 1 1 [.string (s.extract f k)] rfl rfl ?d1 ?d2 ?d3 ?d4 ?d5 ?_))
          case d1 =>
            intro j u hj
            match j, hj with
            | 0, hj => simp at hj; subst hj; simp [Addr.add]
          case d2 => intro u hu; simp at hu; subst hu; rfl
          case d3 => unfold maxLen; omega
          case d4 => omega
          case d5 => simp; omega
          intro v' w1 hown' hgrow _
          have hb1 := ((Hbel.out.alloc (by omega) (.cells #[.string (s.extract f k)] 9)).grown hgrow (by simp; omega) (fun q hq => by have := Hown.out.lt q hq; omega))
          have Hown1 := Lib.hid hown'
          have Hb1 := Lib.hid hb1
          clear hown' hgrow hb1
          go_wp2_with fail
          go_roundw
          case rel =>
            refine ⟨k + 1, k + 1, done ++ [s.extract f k], by go_num, by go_num, by simpa using Hown1.out, by simp; omega, Hb1.out, ?_⟩
            refine Or.inl ⟨by omega, Nat.le_refl _, fun j a b => absurd b (by omega), ?_⟩
            rw [← Hdone.out, pcs_step c s f k hfk hlt (by rw [Hget.out, Hc.out]) (fun j a b => Hno.out j a b)]
            simp
          case measure => first | (simp [intOf]; done) | (simp [intOf]; omega)
        · have hq : ((s[k].toNat : Int) == c.toNat) = false := by
            simp
            intro x; exact hc (UInt8.toNat_inj.1 (by omega))
          have Hc := Lib.hid hc
          clear hc
          go_wp2_with fail
          go_roundw
          case rel =>
            refine ⟨k + 1, f, done, by go_num, rfl, Hown.out, by omega, Hbel.out, Or.inl ⟨by omega, by omega, fun j a b => ?_, Hdone.out⟩⟩
            by_cases e : j = k
            · subst e; rw [Hget.out]; intro e; injection e with e; exact Hc.out e
            · exact Hno.out j a (by omega)
          case measure => first | (simp [intOf]; done) | (simp [intOf]; omega)
    · have Hdone := Lib.hid hdone
      clear hdone
      go_wp2_with fail
      go_ret
      exact ⟨⟨_, rfl, by rw [← Hdone.out]; exact Hown.out⟩, Hbel.out⟩
end Go.Proofs.YtbnkanlebjpkfaaDoor
namespace Go.Proofs.YtbnkanlebjpkfaaDoor
open Go.RowKit
/-- A slice of n strings that came in. -/
def StrsIn (w : World) (B : Nat) (a0 : Option Addr) (n : Nat) (f : Nat → ByteArray) : Prop :=
  n ≤ maxLen ∧ (∀ j, j < n → (f j).size ≤ maxLen) ∧ (0 < n → ∃ b off, a0 = some ⟨b, off, none⟩ ∧ b < B ∧ ∀ j, j < n → w.cell? ⟨b, off + j, none⟩ = some (.string (f j)))
theorem StrsIn.below {w w' : World} {B : Nat} {a0 : Option Addr} {n : Nat} {f : Nat → ByteArray} (h : StrsIn w B a0 n f) (hb : Below B w w') : StrsIn w' B a0 n f :=
  ⟨h.1, h.2.1, fun h0 => by obtain ⟨b, off, e, hlt, hc⟩ := h.2.2 h0; exact ⟨b, off, e, hlt, fun j hj => by rw [hb.cell (by exact hlt)]; exact hc j hj⟩⟩
end Go.Proofs.YtbnkanlebjpkfaaDoor
namespace Go.Proofs.YtbnkanlebjpkfaaDoor
open Go.RowKit Go.Lib
theorem infoByte : (Tryd.prog.info? 5).map (fun i => (i.zero, i.size, i.bytes)) = some (some (.int .u8 0), 1, 1) := by kernel_rfl
end Go.Proofs.YtbnkanlebjpkfaaDoor
