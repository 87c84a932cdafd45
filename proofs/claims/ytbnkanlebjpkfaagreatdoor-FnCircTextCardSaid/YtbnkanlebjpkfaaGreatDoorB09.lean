/- B09: several of our texts in one: DwY DwN DwU DwB DsP DwDraw Isq ARow TxF TxR Iv DwA DwT. -/
import Derived.Test.YtbnkanlebjpkfaaGreatDoorB03
import Derived.Test.YtbnkanlebjpkfaaGreatDoorB04
import Derived.Test.YtbnkanlebjpkfaaGreatDoorB11
import Derived.Test.YtbnkanlebjpkfaaGreatDoorB02
import Derived.Test.YtbnkanlebjpkfaaGreatDoorDwS
namespace Go.Proofs.YtbnkanlebjpkfaaGreatDoor
open Go.RowKit
attribute [local irreducible] World.cell?
end Go.Proofs.YtbnkanlebjpkfaaGreatDoor
namespace Go.Proofs.YtbnkanlebjpkfaaGreatDoor
open Go.RowKit
attribute [local irreducible] World.cell?
end Go.Proofs.YtbnkanlebjpkfaaGreatDoor
namespace Go.Proofs.YtbnkanlebjpkfaaGreatDoor
open Go.RowKit
attribute [local irreducible] World.cell?
set_option maxRecDepth 100000 in
set_option maxHeartbeats 400000 in
theorem max_any (a b : Int) (w : World) :
    Calls Tryz.prog 39 #[.int .i64 a, .int .i64 b] w fun e w' => e = .returned (.int .i64 (if b < a then a else b)) ∧ w = w' := by
  by_cases h : b < a
  · rw [if_pos h]
    go_enter Tryz.func39, Tryz.ntmps39
    go_wp2_with fail
    go_ret
    exact ⟨rfl, rfl⟩
  · rw [if_neg h]
    go_enter Tryz.func39, Tryz.ntmps39
    go_wp2_with fail
    go_ret
    exact ⟨rfl, rfl⟩
end Go.Proofs.YtbnkanlebjpkfaaGreatDoor
namespace Go.Proofs.YtbnkanlebjpkfaaGreatDoor
open Go.RowKit
attribute [local irreducible] World.cell?
end Go.Proofs.YtbnkanlebjpkfaaGreatDoor
namespace Go.Proofs.YtbnkanlebjpkfaaGreatDoor
open Go.RowKit
instance : DecidableEq Dw := fun x y => decidable_of_iff (eqDB x y = true) eqDB_iff
end Go.Proofs.YtbnkanlebjpkfaaGreatDoor
namespace Go.Proofs.YtbnkanlebjpkfaaGreatDoor
open Go.RowKit
theorem CurAt.drew {B : Nat} {w : World} (h : CurAt w B) : CurAt w.drew B := h
attribute [local irreducible] World.cell?
set_option maxRecDepth 100000 in
set_option maxHeartbeats 800000 in
theorem pickB (B b n cap : Nat) (l : List Int) (w : World) (hcur : CurAt w B) (hl : ListAt w b n (fun j => .int .i64 (l.getD j 0))) (hne : b ≠ B) (h1 : 1 ≤ n) (h2 : n ≤ 1000000) (hn : n = l.length) (lo hi : Int) (hb : ∀ v ∈ l, lo ≤ v ∧ v ≤ hi) :
    Calls Tryz.prog 37 #[.pointer (some ⟨B, 0, none⟩), .slice (some ⟨b, 0, none⟩) n cap] w fun e w' => (∃ v : Int, lo ≤ v ∧ v ≤ hi ∧ e = .returned (.int .i64 v)) ∧ CurAt w' B ∧ Own B w w' := by
  refine (pickInt_any B b n cap (fun j => l.getD j 0) w hcur hl hne h1 h2).mono ?_
  rintro e w1 ⟨⟨j, hj, rfl⟩, hc, ho⟩
  have hm : l.getD j 0 ∈ l := by rw [List.getD_eq_getElem?_getD, List.getElem?_eq_getElem (by omega)]; exact List.getElem_mem _
  exact ⟨⟨_, (hb _ hm).1, (hb _ hm).2, rfl⟩, hc, ho⟩
end Go.Proofs.YtbnkanlebjpkfaaGreatDoor
namespace Go.Proofs.YtbnkanlebjpkfaaGreatDoor
open Go.RowKit
attribute [local irreducible] World.cell?
set_option maxRecDepth 100000 in
set_option maxHeartbeats 400000 in
theorem iisq_yes (n : Int) (w : World) (h : 1 ≤ n ∧ n ≤ 4) :
    Calls Tryz.prog 41 #[.int .i64 n] w fun e w' => e = .returned (.bool true) ∧ w = w' := by
  obtain ⟨h1, h2⟩ := h
  go_enter Tryz.func41, Tryz.ntmps41
  go_wp2_with fail
  go_ret
  exact ⟨rfl, rfl⟩
set_option maxRecDepth 100000 in
set_option maxHeartbeats 400000 in
theorem iisq_no (n : Int) (w : World) (h : ¬ (1 ≤ n ∧ n ≤ 4)) (_ : -9223372036854775808 ≤ n) (_ : n ≤ 9223372036854775807) :
    Calls Tryz.prog 41 #[.int .i64 n] w fun e w' => e = .returned (.bool false) ∧ w = w' := by
  by_cases h1 : n < 1
  · clear h
    go_enter Tryz.func41, Tryz.ntmps41
    go_wp2_with fail
    go_ret
    exact ⟨rfl, rfl⟩
  · have h4 : 4 < n := by omega
    clear h
    go_enter Tryz.func41, Tryz.ntmps41
    go_wp2_with fail
    go_ret
    exact ⟨by first | rfl | (simp; omega), rfl⟩
end Go.Proofs.YtbnkanlebjpkfaaGreatDoor
namespace Go.Proofs.YtbnkanlebjpkfaaGreatDoor
open Go.RowKit
/-- The block g, of whatever type, begins with these integers. -/
def AR (w : World) (g : Nat) (l : List Int) : Prop := ∃ (cs : Array Value) (ty : TypeId), w.heap[g]? = some (.cells cs ty (0, 0)) ∧ cs.toList.take l.length = l.map (Value.int .i64)
theorem AR.lt {w : World} {g : Nat} {l : List Int} (h : AR w g l) : g < w.heap.size := by obtain ⟨cs, ty, h1, _⟩ := h; exact lt_of_block h1
theorem AR.block {w w' : World} {g : Nat} {l : List Int} (h : AR w g l) (hb : w'.heap[g]? = w.heap[g]?) : AR w' g l := by obtain ⟨cs, ty, h1, h2⟩ := h; exact ⟨cs, ty, hb.trans h1, h2⟩
theorem AR.cell {w : World} {g : Nat} {l : List Int} (h : AR w g l) {j : Nat} {x : Int} (hx : l[j]? = some x) : w.cell? ⟨g, j, none⟩ = some (.int .i64 x) := by
  obtain ⟨cs, ty, h1, h2⟩ := h
  have hj : j < l.length := by
    rcases Nat.lt_or_ge j l.length with h' | h'
    · exact h'
    · rw [List.getElem?_eq_none h'] at hx; cases hx
  refine cell_at h1 _ _ ?_
  have e : (cs.toList.take l.length)[j]? = (l.map (Value.int .i64))[j]? := by rw [h2]
  rw [List.getElem?_take, if_pos hj, List.getElem?_map, hx] at e
  rw [← Array.getElem?_toList]; exact e
end Go.Proofs.YtbnkanlebjpkfaaGreatDoor
namespace Go.Proofs.YtbnkanlebjpkfaaGreatDoor
open Go.RowKit Go.Lib
attribute [local irreducible] World.cell?
end Go.Proofs.YtbnkanlebjpkfaaGreatDoor
namespace Go.Proofs.YtbnkanlebjpkfaaGreatDoor
open Go.RowKit Go.Lib
theorem set1_blk {g b o : Nat} {W : World} {x : Obj} {u : Value} (hn : b ≠ g) (h : W.heap[b]? = some x) : (W.setCell ⟨g, o, none⟩ u).heap[b]? = some x := by
  rw [Below.heap_setCell _ _ _ _ (by simpa using hn)]; exact h
theorem pcs_small (c : UInt8) : ∀ (n : Nat) (s : ByteArray), s.size ≤ n → ∀ p ∈ pcs c s, p.size ≤ s.size := by
  intro n
  induction n with
  | zero =>
    intro s hs p hp
    rw [pcs_miss c s (fun j h => by rw [List.getElem?_eq_none (by simp; omega)] at h; cases h)] at hp
    simp at hp; subst hp; exact Nat.le_refl _
  | succ n ih =>
    intro s hs p hp
    rcases index_spec s.data.toList [c] with ⟨_, hno⟩ | ⟨i, _, hi, ho, hno⟩
    · rw [pcs_miss c s (fun j h => by
        have hj : j < s.data.toList.length := by
          rcases Nat.lt_or_ge j s.data.toList.length with h' | h'
          · exact h'
          · rw [List.getElem?_eq_none h'] at h; cases h
        have := hno j (Nat.le_of_lt hj)
        rw [occ_one, h] at this
        simp at this)] at hp
      simp at hp; subst hp; exact Nat.le_refl _
    · have hget : s.data.toList[i]? = some c := by rw [occ_one] at ho; simpa using ho
      rw [pcs_hit c s i hget (fun j hj h => by
        have := hno j hj
        rw [occ_one, h] at this
        simp at this)] at hp
      rcases List.mem_cons.1 hp with rfl | hp
      · rw [ByteArray.size_extract]; omega
      · have h2 : (s.extract (i + 1) s.size).size ≤ n := by
          rw [ByteArray.size_extract]; omega
        have := ih _ h2 p hp
        rw [ByteArray.size_extract] at this
        omega
attribute [local irreducible] World.cell?
end Go.Proofs.YtbnkanlebjpkfaaGreatDoor
namespace Go.Proofs.YtbnkanlebjpkfaaGreatDoor
open Go.RowKit
/-- 1 over the k-th power of the root of 2, or zero past the limits. -/
def isV (k : Int) : Dw := if 0 ≤ k ∧ k ≤ 60 then ⟨⟨1, 0, 0, 0⟩, k⟩ else .zero
attribute [local irreducible] World.cell?
end Go.Proofs.YtbnkanlebjpkfaaGreatDoor
namespace Go.Proofs.YtbnkanlebjpkfaaGreatDoor
open Go.RowKit
attribute [local irreducible] World.cell?
end Go.Proofs.YtbnkanlebjpkfaaGreatDoor
namespace Go.Proofs.YtbnkanlebjpkfaaGreatDoor
open Go.RowKit
theorem ListAt.drew {w : World} {b n : Nat} {f : Nat → Value} (h : ListAt w b n f) : ListAt w.drew b n f := h
theorem own_drew1 {B : Nat} {a w : World} (h : Own B a w) : Own B a w.drew := own_trans h ⟨rfl, rfl, rfl, Nat.le_refl _, fun _ _ _ => rfl⟩
theorem cat3 {k : Nat} {s t : ByteArray} (hk : k ≤ s.size) (hm : s.size ≤ 1000) (ht : t.size ≤ 10) : min k s.size = k ∧ ¬ 9223372036854775807 < k + t.size ∧ ¬ 9223372036854775807 < k + t.size + (s.size - k) ∧
    (s.extract 0 k ++ t).size + (s.extract k s.size).size ≤ 9223372036854775807 ∧ ¬ 9223372036854775807 < (s.extract 0 k ++ t).size + (s.extract k s.size).size ∧ (s.extract 0 k).size + t.size + (s.extract k s.size).size ≤ 9223372036854775807 ∧
    k + t.size + (s.size - k) ≤ 9223372036854775807 ∧ min k s.size + t.size + (s.size - k) ≤ 9223372036854775807 ∧ k + t.size ≤ 9223372036854775807 := by
  simp only [ByteArray.size_append, ByteArray.size_extract]
  omega
theorem szle_drew {w W : World} (h : w.heap.size ≤ W.heap.size) : w.heap.size ≤ W.drew.heap.size := h
attribute [local irreducible] World.cell?
def TRet (e : Ending) : Prop := ∃ t : ByteArray, e = .returned (.string t) ∧ t.size ≤ 1048576
theorem tret (t : ByteArray) (h : t.size ≤ 1048576) : TRet (.returned (.string t)) := ⟨t, rfl, h⟩
theorem pickT (B b n cap : Nat) (f : Nat → ByteArray) (w : World) (hcur : CurAt w B) (hl : ListAt w b n (fun j => .string (f j))) (hne : b ≠ B) (h1 : 1 ≤ n) (h2 : n ≤ 1000000) (hf : ∀ j, j < n → (f j).size ≤ 10) :
    Calls Tryz.prog 52 #[.pointer (some ⟨B, 0, none⟩), .slice (some ⟨b, 0, none⟩) n cap] w fun e w' => (∃ t : ByteArray, t.size ≤ 10 ∧ e = .returned (.string t)) ∧ CurAt w' B ∧ Own B w w' := by
  refine (pick_any B b n cap f w hcur hl hne h1 h2).mono ?_
  rintro e w1 ⟨⟨j, hj, rfl⟩, hc, ho⟩
  exact ⟨⟨f j, hf j hj, rfl⟩, hc, ho⟩
set_option maxRecDepth 100000 in
set_option maxHeartbeats 1600000 in
theorem turned_any (B b n cap : Nat) (f : Nat → ByteArray) (s : ByteArray) (w : World) (hcur : CurAt w B) (_ : B < w.heap.size) (hl : ListAt w b n (fun j => .string (f j))) (hne : b ≠ B) (h1 : 1 ≤ n) (h2 : n ≤ 1000000) (hf : ∀ j, j < n → (f j).size ≤ 10) (hs : s.size ≤ 1000) :
    Calls Tryz.prog 25 #[.pointer (some ⟨B, 0, none⟩), .string s, .slice (some ⟨b, 0, none⟩) n cap] w fun e w' => TRet e ∧ CurAt w' B ∧ Own B w w' := by
  have Hc0 := Lib.hid hcur
  have Hl0 := Lib.hid hl
  have Hf := Lib.hid hf
  have hsz : (s.size : Int) + 1 ≤ 1001 := by omega
  have hs0 : (0 : Int) ≤ s.size := by omega
  clear hcur hl hf
  go_enter Tryz.func25, Tryz.ntmps25
  go_wp2_with fail
  refine (below_any B ((s.size : Int) + 1) _ Hc0.out (by omega) (by omega)).mono ?_
  rintro e w1 ⟨⟨k, k0, k1, rfl⟩, hc1, ho1⟩
  obtain ⟨k, rfl⟩ := Int.eq_ofNat_of_zero_le k0
  have hk : k ≤ s.size := by omega
  have Hc1 := Lib.hid hc1
  have Hl1 := Lib.hid (Hl0.out.own ho1 hne)
  have Ho1 := Lib.hid ho1
  clear hc1 ho1 k0 k1
  go_wp2_with fail
  refine (below_any B 6 _ Hc1.out (by omega) (by omega)).mono ?_
  rintro e w2 ⟨⟨m, m0, m1, rfl⟩, hc2, ho2⟩
  have Hc2 := Lib.hid hc2
  have Hl2 := Lib.hid (Hl1.out.own ho2 hne)
  have Ho2 := Lib.hid (own_trans Ho1.out ho2)
  clear hc2 ho2
  have hki : (k : Int) ≤ s.size := by omega
  have hk0 : (0 : Int) ≤ k := by omega
  rcases (show m = 0 ∨ m = 1 ∨ 2 ≤ m by omega) with rfl | rfl | hm
  · go_upto_region 4 with fail
    have hw2 := Ho2.out.size
    go_region_held3 (fun w' => w.heap.size ≤ w'.heap.size) (first | (show _ ≤ _; exact szle_drew hw2) | (show _ ≤ _; exact Nat.le_trans hw2 hoR.size))
      (first | (go_at_call 52; refine (pickT B b n cap f _ (CurAt.drew Hc2.out) (ListAt.drew Hl2.out) hne h1 h2 Hf.out).mono ?_; rintro e wR ⟨⟨t, ht, rfl⟩, hcR, hoR⟩; obtain ⟨q0, q1, q2, q3, q4, q5, q6, q7, q8⟩ := cat3 hk hs ht))
    all_goals go_wp2_with fail
    all_goals go_ret
    all_goals exact ⟨tret _ (by rw [ByteArray.size_append, ByteArray.size_append, ByteArray.size_extract, ByteArray.size_extract]; omega), hcR, own_trans (own_drew1 Ho2.out) hoR⟩
  · go_wp2_with fail
    go_ret
    exact ⟨tret _ (by rw [ByteArray.size_extract]; omega), Hc2.out, Ho2.out⟩
  · have hm0 : (m == 0) = false := by simp; omega
    have hm1 : (m == 1) = false := by simp; omega
    have hm2 : decide (m = 0) = false := by simp; omega
    have hm3 : decide (m = 1) = false := by simp; omega
    go_wp2_with fail
    go_ret
    exact ⟨tret _ (by omega), Hc2.out, Ho2.out⟩
end Go.Proofs.YtbnkanlebjpkfaaGreatDoor
