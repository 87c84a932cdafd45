/- The program's Join and ParseNumber as the twelfth chapter's texts want them. -/
import Derived.Test.YtbnkanlebjpkfaaDoorTcM
import Derived.Test.YtbnkanlebjpkfaaDoorB01
import Derived.Test.YtbnkanlebjpkfaaDoorStdJoin
import Derived.Test.YtbnkanlebjpkfaaDoorParse
import Derived.Test.YtbnkanlebjpkfaaDoorFmtImpl
namespace Go.Proofs.YtbnkanlebjpkfaaDoor
open Go.RowKit Go.Lib
theorem ijoinW (c : UInt8) (x : List UInt8) (r : List (List UInt8)) (g cap : Nat) (hcap : r.length + 1 ≤ cap) (W : World) (hrow : StrRow W g (r.length + 1) (fun j => ((x :: r).map toB).getD j ByteArray.empty)) (hN : r.length + 1 ≤ 140737488355328) (hlen : (x ++ r.flatMap fun m => c :: m).length ≤ 140737488355328) :
    Calls Tryd.prog 33 #[.slice (some ⟨g, 0, none⟩) (r.length + 1) cap, .string ⟨#[c]⟩] W fun e w' => e = .returned (.string (toB (x ++ r.flatMap fun m => c :: m))) ∧ Below W.heap.size W w' := by
  have hmap : ((x :: r).map toB).map (·.data.toList) = x :: r := by
    rw [List.map_map]
    exact (List.map_congr_left (fun m _ => toB_data m)).trans (List.map_id _)
  have hl : ((x :: r).map toB).length = r.length + 1 := by simp
  have hc := Tryd.strings_Join g 0 cap ((x :: r).map toB) ⟨#[c]⟩ W (fun j y hy => by
    have hj : j < r.length + 1 := by
      rcases Nat.lt_or_ge j (r.length + 1) with h' | h'
      · exact h'
      · rw [List.getElem?_eq_none (by rw [hl]; exact h')] at hy; cases hy
    rw [Nat.zero_add, hrow.cell hj, List.getD_eq_getElem?_getD, hy]
    rfl) hrow.lt (by rw [hl]; exact hN) (by rw [hl]; exact hcap) (by rw [hmap]; show (join (x :: r) [c]).length ≤ _; rw [join_flat]; exact hlen)
  rw [hmap, hl] at hc
  have e : (⟨(join (x :: r) [c]).toArray⟩ : ByteArray) = toB (x ++ r.flatMap fun m => c :: m) := by rw [join_flat]; rfl
  have Hc := Lib.hid (show Calls Tryd.prog 56 #[.slice (some ⟨g, 0, none⟩) (r.length + 1) cap, .string ⟨#[c]⟩] W fun e w' => e = .returned (.string (toB (x ++ r.flatMap fun m => c :: m))) ∧ Below W.heap.size W w' from hc.mono (fun x w' ⟨h1, h2⟩ => ⟨by rw [h1]; exact congrArg (fun z => Ending.returned (.string z)) e, h2⟩))
  clear hc e hrow hmap hl hlen hN
  generalize toB (x ++ r.flatMap fun m => c :: m) = T at *
  generalize r.length + 1 = n at *
  go_enter Tryd.func33, Tryd.ntmps33
  go_wp2_with fail
  refine Hc.out.mono ?_
  rintro e w1 ⟨rfl, hb⟩
  go_wp2_with fail
  go_ret
  exact ⟨rfl, hb⟩
theorem ifmtI (n : Int) (w : World) (h0 : -9223372036854775808 ≤ n) (h1 : n ≤ 9223372036854775807) (hp : HasPow w) :
    Calls Tryd.prog 32 #[.int .i64 n] w fun e w' => e = .returned (.string (toB (itoa n))) ∧ Below w.heap.size w w' := ifmt_any n w h0 h1 hp
theorem ipnum (q : ByteArray) (w : World) (hs : q.size ≤ 1048576) (hp : HasPow w) (he : HasErrs w) :
    Calls Tryd.prog 39 #[.string q] w fun e w' => e = .returned (.tuple #[.int .i64 (nbV q), .bool (nbB q)]) ∧ Below w.heap.size w w' := by
  cases h : nbB q
  · obtain ⟨h0, h1⟩ := nb_no h
    rw [h0]
    exact pnum_no q (by omega) h1 w hp he
  · obtain ⟨h0, h1, h2⟩ := nb_yes h
    exact pnum_yes q (nbV q) h2 (by omega) (by omega) h0 h1 w hp
/-- What is no row of strings is not the block that a slice of strings owns. -/
theorem own_otherS {w : World} {base : Nat} {v : Value} {k g : Nat} {xs : List Value} {o : Obj} (h : w.ownsRow base 9 1 v k xs) (ho : w.heap[g]? = some o) (hc : ∀ cs f, o ≠ Obj.cells cs 9 f) : some g ≠ v.ownBlock := fun e => by
  rcases h.2 with ⟨rfl, _⟩ | ⟨g', cap, cur, rfl, _, hgb, _⟩
  · cases e
  · obtain rfl : g = g' := by simpa [Value.ownBlock] using e
    rw [hgb] at ho; exact hc _ _ (Option.some.inj ho).symm
/-- A row of strings that the call owns, as a row. -/
theorem own_rowS {w : World} {B : Nat} {v : Value} {l : List ByteArray} {n : Nat} (hl : l.length = n) (hn : 0 < n) (h : w.ownsRow B 9 1 v n (l.map Value.string)) :
    ∃ g cap, v = .slice (some ⟨g, 0, none⟩) n cap ∧ n ≤ cap ∧ StrRow w g n (fun j => l.getD j ByteArray.empty) := by
  rcases h.2 with ⟨_, h2⟩ | ⟨g, cap, cur, hv, hb, hg, hn, hc, hs, ht⟩
  · omega
  · refine ⟨g, cap, hv, by omega, cur, hg, fun j hj => ?_⟩
    have e := congrArg (fun x : List Value => x[j]?) ht
    simp only [List.getElem?_take, Nat.mul_one, if_pos hj] at e
    rw [← Array.getElem?_toList, e, List.getElem?_map]
    show Option.map Value.string l[j]? = some (Value.string (l.getD j ByteArray.empty))
    rw [List.getD_eq_getElem?_getD, List.getElem?_eq_getElem (by omega)]
    rfl
theorem row_belowS {w w' : World} {base : Nat} {e : TypeId} {size : Nat} {v : Value} {n : Nat} {xs : List Value} (h : w.ownsRow base e size v n xs) (hb : Below w.heap.size w w') : w'.ownsRow base e size v n xs := by
  obtain ⟨h1, h2⟩ := h
  refine ⟨h1, ?_⟩
  rcases h2 with h2 | ⟨g, cap, cur, a, b, c, d⟩
  · exact .inl h2
  · exact .inr ⟨g, cap, cur, a, b, by rw [hb.block g (lt_of_block c)]; exact c, d⟩
/-- One string in a new block. -/
theorem own_oneS (w : World) (s : ByteArray) {base : Nat} (hb : base ≤ w.heap.size) : (w.alloc (.cells #[.string s] 9)).ownsRow base 9 1 (.slice (some ⟨w.heap.size, 0, none⟩) 1 1) 1 ([s].map Value.string) :=
  ⟨rfl, .inr ⟨w.heap.size, 1, _, rfl, hb, heap_alloc_new w _, Nat.le_refl _, by decide, rfl, rfl⟩⟩
theorem infoStr12 : (Tryd.prog.info? 9).map (fun i => (i.zero, i.size, i.bytes)) = some (some (.string ⟨#[]⟩), 1, 16) := by kernel_rfl
end Go.Proofs.YtbnkanlebjpkfaaDoor
