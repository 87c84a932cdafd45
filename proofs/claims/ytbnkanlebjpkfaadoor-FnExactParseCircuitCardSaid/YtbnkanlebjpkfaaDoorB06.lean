/- B06: several of our texts in one: Zw SplitP Num Heap StrTab Conv OpAt. -/
import Derived.Lib.Split
import Derived.Lib.IndexBytes
import Derived.Lib.SplitLaws
import Derived.Lib.ItoaNum
import Derived.Test.YtbnkanlebjpkfaaDoorRows
import Derived.WalkKit
import Derived.WalkSpells
import Derived.WalkLawsBesides
import Derived.Lib.Hide
import Derived.OneCell
import Derived.WalkSmall
import Derived.Lib.LaidTab
import Derived.Lib.SmallJoins
/- The ring Z[omega] in plain integers: what is valid, the sum, the product, the two conjugates, division by the square root of 2. -/
namespace Go.Proofs.YtbnkanlebjpkfaaDoor
structure Zw where
  a : Int
  b : Int
  c : Int
  d : Int
/-- One coefficient is within the limit. -/
def Near (n : Int) : Prop := -1073741824 ≤ n ∧ n ≤ 1073741824
instance (n : Int) : Decidable (Near n) := inferInstanceAs (Decidable (_ ∧ _))
def Zw.ok (x : Zw) : Prop := Near x.a ∧ Near x.b ∧ Near x.c ∧ Near x.d
instance (x : Zw) : Decidable x.ok := inferInstanceAs (Decidable (_ ∧ _))
/-- An integer of 64 bits. -/
def I64 (n : Int) : Prop := -9223372036854775808 ≤ n ∧ n ≤ 9223372036854775807
def Zw.i64 (x : Zw) : Prop := I64 x.a ∧ I64 x.b ∧ I64 x.c ∧ I64 x.d
def Zw.zero : Zw := ⟨0, 0, 0, 0⟩
def Zw.add (x y : Zw) : Zw := ⟨x.a + y.a, x.b + y.b, x.c + y.c, x.d + y.d⟩
def Zw.mul (x y : Zw) : Zw := ⟨x.a * y.a - x.b * y.d - x.c * y.c - x.d * y.b, x.a * y.b + x.b * y.a - x.c * y.d - x.d * y.c, x.a * y.c + x.b * y.b + x.c * y.a - x.d * y.d, x.a * y.d + x.b * y.c + x.c * y.b + x.d * y.a⟩
/-- x times the square root of 2. -/
def Zw.root (x : Zw) : Zw := ⟨x.b - x.d, x.a + x.c, x.b + x.d, x.c - x.a⟩
def Zw.even (x : Zw) : Prop := x.a % 2 = 0 ∧ x.b % 2 = 0 ∧ x.c % 2 = 0 ∧ x.d % 2 = 0
instance (x : Zw) : Decidable x.even := inferInstanceAs (Decidable (_ ∧ _))
def Zw.half (x : Zw) : Zw := ⟨x.a / 2, x.b / 2, x.c / 2, x.d / 2⟩
/-- What the functions of the chapter return. -/
def addB (x y : Zw) : Bool := decide (x.ok ∧ y.ok ∧ (x.add y).ok)
def addV (x y : Zw) : Zw := if x.ok ∧ y.ok ∧ (x.add y).ok then x.add y else .zero
def mulB (x y : Zw) : Bool := decide (x.ok ∧ y.ok ∧ (x.mul y).ok)
def mulV (x y : Zw) : Zw := if x.ok ∧ y.ok ∧ (x.mul y).ok then x.mul y else .zero
def divB (x : Zw) : Bool := decide (x.ok ∧ x.root.even)
theorem Near.i64 {n : Int} (h : Near n) : I64 n := by unfold Near at h; unfold I64; omega
theorem Zw.ok.i64 {x : Zw} (h : x.ok) : x.i64 := ⟨h.1.i64, h.2.1.i64, h.2.2.1.i64, h.2.2.2.i64⟩
end Go.Proofs.YtbnkanlebjpkfaaDoor
namespace Go.Proofs.YtbnkanlebjpkfaaDoor
open Go.Lib
/-- The pieces of s between the places of the byte c. -/
def pcs (c : UInt8) (s : ByteArray) : List ByteArray := splitB ⟨#[c]⟩ 0 (countB s ⟨#[c]⟩) s
theorem occ_one (s : List UInt8) (c : UInt8) (i : Nat) : occAt s [c] i = (s[i]? == some c) := by
  unfold occAt
  rw [← List.head?_drop]
  cases h : s.drop i with
  | nil => rfl
  | cons a r => simp [List.isPrefixOf]; exact Bool.beq_comm
theorem idx_hit (s : ByteArray) (c : UInt8) (i : Nat) (h : s.data.toList[i]? = some c) (hn : ∀ j, j < i → s.data.toList[j]? ≠ some c) : indexB s ⟨#[c]⟩ = i := by
  have hi : i < s.data.toList.length := by
    rcases Nat.lt_or_ge i s.data.toList.length with h' | h'
    · exact h'
    · rw [List.getElem?_eq_none h'] at h; cases h
  show index s.data.toList [c] = i
  refine index_first (Nat.le_of_lt hi) (by rw [occ_one, h]; simp) (fun j hj => ?_)
  rw [occ_one]; simpa using hn j hj
theorem idx_miss (s : ByteArray) (c : UInt8) (hn : ∀ j : Nat, s.data.toList[j]? ≠ some c) : indexB s ⟨#[c]⟩ = -1 := by
  show index s.data.toList [c] = -1
  refine index_none (fun j _ => ?_)
  rw [occ_one]; simpa using hn j
theorem pcs_hit (c : UInt8) (s : ByteArray) (i : Nat) (h : s.data.toList[i]? = some c) (hn : ∀ j, j < i → s.data.toList[j]? ≠ some c) : pcs c s = s.extract 0 i :: pcs c (s.extract (i + 1) s.size) := by
  have hx := idx_hit s c i h hn
  unfold pcs
  rw [countB_hit s ⟨#[c]⟩ i (Nat.le_refl 1) hx, Nat.add_comm 1, splitB_hit _ _ _ _ i hx]
  rfl
theorem pcs_miss (c : UInt8) (s : ByteArray) (hn : ∀ j : Nat, s.data.toList[j]? ≠ some c) : pcs c s = [s] := by
  unfold pcs
  rw [splitB_miss _ _ _ _ (idx_miss s c hn)]
theorem ext_get (s : ByteArray) (f j : Nat) : (s.extract f s.size).data.toList[j]? = s.data.toList[f + j]? := by
  rw [extract_to_end, List.getElem?_drop]
/-- One step of the cutting loop: the byte at i is c. -/
theorem pcs_step (c : UInt8) (s : ByteArray) (f i : Nat) (hf : f ≤ i) (hi : i < s.size) (h : s.data.toList[i]? = some c) (hn : ∀ j, f ≤ j → j < i → s.data.toList[j]? ≠ some c) :
    pcs c (s.extract f s.size) = s.extract f i :: pcs c (s.extract (i + 1) s.size) := by
  have e := pcs_hit c (s.extract f s.size) (i - f) (by rw [ext_get, show f + (i - f) = i by omega]; exact h) (fun j hj => by rw [ext_get]; exact hn _ (by omega) (by omega))
  rw [e]
  have e1 : (s.extract f s.size).extract 0 (i - f) = s.extract f i := by
    rw [ByteArray.extract_extract]; congr 1; omega
  have e2 : (s.extract f s.size).extract (i - f + 1) (s.extract f s.size).size = s.extract (i + 1) s.size := by
    rw [ByteArray.extract_extract, ByteArray.size_extract]; congr 1 <;> omega
  rw [e1, e2]
theorem pcs_last (c : UInt8) (s : ByteArray) (f : Nat) (hn : ∀ j, f ≤ j → j < s.size → s.data.toList[j]? ≠ some c) : pcs c (s.extract f s.size) = [s.extract f s.size] := by
  refine pcs_miss c _ (fun j => ?_)
  rw [ext_get]
  rcases Nat.lt_or_ge (f + j) s.size with h | h
  · exact hn _ (by omega) h
  · rw [List.getElem?_eq_none (by simpa using h)]; simp
theorem pcs_whole (c : UInt8) (s : ByteArray) : pcs c (s.extract 0 s.size) = pcs c s := by
  congr 1
  apply ByteArray.ext; simp
theorem pcs_len (c : UInt8) (s : ByteArray) : (pcs c s).length = countB s ⟨#[c]⟩ + 1 := splitB_all ⟨#[c]⟩ (Nat.le_refl 1) 0 _ s rfl
theorem pcs_len_le (c : UInt8) (s : ByteArray) : (pcs c s).length ≤ s.size + 1 := by
  rw [pcs_len]; have := countB_le ⟨#[c]⟩ (Nat.le_refl 1) s.size s (Nat.le_refl _); omega
end Go.Proofs.YtbnkanlebjpkfaaDoor
namespace Go.Proofs.YtbnkanlebjpkfaaDoor
open Go.Lib
/-- The digits of u that a loop still has to write: none for 0. -/
def digs (u : Nat) : List UInt8 := if u = 0 then [] else decDigits u
theorem digs_zero : digs 0 = [] := rfl
theorem digs_pos {u : Nat} (h : u ≠ 0) : digs u = decDigits u := by unfold digs; rw [if_neg h]
theorem digs_step {u : Nat} (h : u ≠ 0) : digs u = digs (u / 10) ++ [UInt8.ofNat (48 + u % 10)] := by
  rw [digs_pos h, decDigits]
  by_cases h1 : u < 10
  · rw [dif_pos h1, show u / 10 = 0 by omega, digs_zero, show u % 10 = u by omega]; rfl
  · rw [dif_neg h1, digs_pos (by omega)]
theorem digs_next {u : Nat} (h : u ≠ 0) (l : List UInt8) : digs (u / 10) ++ (UInt8.ofNat (48 + u % 10) :: l) = digs u ++ l := by
  rw [digs_step h]; simp
theorem digs_length (u : Nat) : (digs u).length ≤ u := by
  induction u using Nat.strongRecOn with
  | _ u ih =>
    by_cases h : u = 0
    · subst h; simp [digs]
    · rw [digs_step h]; have := ih (u / 10) (by omega); simp; omega
theorem digs_length' (u : Nat) : (digs u).length ≤ u / 10 + 1 := by
  by_cases h : u = 0
  · subst h; simp [digs]
  · rw [digs_step h]; have := digs_length (u / 10); simp; omega
theorem neg_tmod (u : Nat) : (-(u : Int)).tmod 10 = -((u % 10 : Nat) : Int) := by
  rw [Int.neg_tmod, Int.tmod_eq_emod_of_nonneg (by omega)]; omega
theorem neg_tdiv (u : Nat) : (-(u : Int)).tdiv 10 = -((u / 10 : Nat) : Int) := by
  rw [Int.neg_tdiv, Int.tdiv_eq_ediv_of_nonneg (by omega)]; omega
end Go.Proofs.YtbnkanlebjpkfaaDoor
namespace Go.Proofs.YtbnkanlebjpkfaaDoor
open Go.RowKit
/-- A block of cells: what each holds, that it may be written, what the block is behind a store. -/
theorem cell_at {w : World} {b : Nat} {cs : Array Value} {t : TypeId} (h : w.heap[b]? = some (.cells cs t (0, 0))) (o : Nat) (v : Value) (hv : cs[o]? = some v) : w.cell? ⟨b, o, none⟩ = some v := by
  simp [World.cell?, h, hv]
theorem free_at {w : World} {b : Nat} {cs : Array Value} {t : TypeId} (h : w.heap[b]? = some (.cells cs t (0, 0))) (o : Nat) : w.frozen? ⟨b, o, none⟩ = false := by
  simp [World.frozen?, h]
theorem heap_set {w : World} {b : Nat} {cs : Array Value} {t : TypeId} (h : w.heap[b]? = some (.cells cs t (0, 0))) (o : Nat) (u : Value) : (w.setCell ⟨b, o, none⟩ u).heap[b]? = some (.cells (cs.setIfInBounds o u) t (0, 0)) := by
  have hlt := lt_of_block h
  have h' : w.heap[b] = .cells cs t (0, 0) := by simpa [Array.getElem?_eq_getElem hlt] using h
  show (w.heap.modify b _)[b]? = _
  rw [Array.getElem?_eq_getElem (by simpa using hlt), Array.getElem_modify_self, h']
  rfl
/-- Only block B may have been written; new blocks may lie behind. -/
abbrev Own (B : Nat) (w w' : World) : Prop := w.grownBy w' (some B)
end Go.Proofs.YtbnkanlebjpkfaaDoor
namespace Go.Proofs.YtbnkanlebjpkfaaDoor
open Go.RowKit Go.Lib
/-- The table as a row lists it. -/
def strData {H : Type} (zs : List (List UInt8)) : DataW H := .agg (zs.map fun z => .lit (.string z))
/-- The variable holds just these strings. -/
def StrsIs (P : Program) (w : World) (name : String) (zs : List (List UInt8)) : Prop := w.var? P name = some (zs.map fun z => Value.string ⟨z.toArray⟩).toArray
theorem strs_of_tab {H : Type} {enc : TypeId × Value → H} {P : Program} {w : World} {base : Nat} {sp : Nat → Bool} {held : Bool} {fuel : Nat} {t e : TypeId} {n : Nat} {cs : List Value} {zs : List (List UInt8)} {p : List MemPlace}
    (ht : P.underlying t = some (.array n e)) (he : P.underlying e = some .string) (hce : P.cellsOf e = 1) (hct : P.cellsOf t = n)
    (h : DataW.trod enc P w base sp held fuel t cs = some (strData zs, p)) : cs = zs.map fun z => Value.string ⟨z.toArray⟩ := by
  cases fuel with
  | zero => simp [DataW.trod] at h
  | succ fuel =>
    simp only [DataW.trod, ht, hce, hct, Nat.mul_one] at h
    split at h
    · rename_i hl
      obtain ⟨xs, hm, hx⟩ := Option.map_eq_some_iff.1 h
      have hxs : xs.map (·.1) = zs.map fun z => (DataW.lit (.string z) : DataW H) := by
        have := congrArg Prod.fst hx
        simpa [strData] using this
      have hxl : xs.length = n := by simpa using mapM_length hm
      have hzl : zs.length = n := by
        have := congrArg List.length hxs
        simp at this
        omega
      apply List.ext_getElem?
      intro i
      by_cases hi : i < n
      · obtain ⟨b, hb, hf⟩ := mapM_at hm i i (by simp [hi])
        obtain ⟨s, hc, rfl, _⟩ := DataW.trod_string he hf
        have h1 : cs[i]? = some (.string s) := by
          have := congrArg (·[0]?) hc
          simpa [List.getElem?_take, List.getElem?_drop] using this
        have h2 : (xs.map (·.1))[i]? = some (DataW.lit (.string s.data.toList) : DataW H) := by simp [hb]
        rw [hxs] at h2
        simp only [List.getElem?_map, Option.map_eq_some_iff, DataW.lit.injEq, Lit.string.injEq] at h2
        obtain ⟨z', hz', hs⟩ := h2
        subst hs
        simp [h1, hz']
      · rw [List.getElem?_eq_none (by omega), List.getElem?_eq_none (by simp; omega)]
    · cases h
theorem strsIs_of_head {P : Program} {W : World} {name : String} {zs : List (List UInt8)} {rest : List (String × DataW Unit)} {g : Nat} {t e : TypeId} {n : Nat}
    (hg : P.globalNamed name = some g) (hty : (P.globals[g]?).map (·.type) = some t) (ht : P.underlying t = some (.array n e)) (he : P.underlying e = some .string) (hce : P.cellsOf e = 1) (hct : P.cellsOf t = n)
    (h : laidMet P ((name, strData zs) :: rest) W) : StrsIs P W name zs := by
  obtain ⟨ps, ⟨g', t', cs, fuel, p, q, hg', ht', hvar, hd, _, _⟩, _⟩ := h
  obtain rfl := Option.some.inj (hg.symm.trans hg')
  obtain rfl := Option.some.inj (hty.symm.trans ht')
  unfold StrsIs
  rw [hvar, ← strs_of_tab ht he hce hct hd]
theorem StrsIs.cell {P : Program} {W : World} {name : String} {zs : List (List UInt8)} {g : Nat} (h : StrsIs P W name zs) (hg : P.globalNamed name = some g) (i : Nat) {z : List UInt8} (hi : zs[i]? = some z) :
    W.cell? ⟨g, i, none⟩ = some (.string ⟨z.toArray⟩) := by
  have := World.var?_cell hg h i
  simpa [hi] using this
theorem StrsIs.below {P : Program} {w w' : World} {name : String} {zs : List (List UInt8)} {g : Nat} (h : StrsIs P w name zs) (hg : P.globalNamed name = some g) (hb : Below w.heap.size w w') : StrsIs P w' name zs :=
  Joins.var_stays hg h hb (Nat.le_refl _)
end Go.Proofs.YtbnkanlebjpkfaaDoor
namespace Go.Proofs.YtbnkanlebjpkfaaDoor
open Go.RowKit
theorem conv_one (x : UInt8) (v : Int) (hv : v = (x.toNat : Int)) (w : World) : (convert 73 9 (.slice (some ⟨w.heap.size, 0, none⟩) 1 1)).run Tryd.prog (w.alloc (.cells #[.int .u8 v] 5)) = .ok (.string ⟨#[x]⟩) (w.alloc (.cells #[.int .u8 v] 5)) := by
  rw [run_convert_bytes_string _ _ _ 5 _ _ _ Tryd.underlying73 Tryd.underlying5 Tryd.underlying9]
  rw [run_bytesToString _ _ _ _ [v] ?_]
  · subst hv
    simp [ByteArray.empty, ByteArray.push, ByteArray.emptyWithCapacity]
    rfl
  · have := run_loadCells_list (P := Tryd.prog) (w := w.alloc (.cells #[.int .u8 v] 5)) ⟨w.heap.size, 0, none⟩ [.int .u8 v] (fun j u hj => by
      match j, hj with
      | 0, hj => simp at hj; subst hj; simp [Addr.add])
    simpa using this
theorem app_one (x : UInt8) (l : List UInt8) : (ByteArray.mk #[x] ++ ByteArray.mk l.toArray) = ByteArray.mk (x :: l).toArray := ByteArray.mk_append_mk [x] l
end Go.Proofs.YtbnkanlebjpkfaaDoor
namespace Go.Proofs.YtbnkanlebjpkfaaDoor
end Go.Proofs.YtbnkanlebjpkfaaDoor
