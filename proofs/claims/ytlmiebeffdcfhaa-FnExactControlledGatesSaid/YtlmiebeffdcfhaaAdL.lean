/- The program's gateList.add, over a list in a box of its own. -/
import Derived.Test.YtlmiebeffdcfhaaWas
import Derived.Test.YtlmiebeffdcfhaaBaseB18
import Derived.Test.YtlmiebeffdcfhaaGsL
namespace Go.Proofs.Ytlmiebeffdcfhaa
open Go.RowKit
attribute [local irreducible] World.cell?
set_option maxRecDepth 100000 in
set_option maxHeartbeats 3200000 in
theorem iaddL2 (C b : Nat) (v u : Value) (k : Nat) (xs : List Value) (M : List Gt) (w : World) (hb : w.heap[b]? = some (.cells #[v] 56 (0, 0))) (hown : w.ownsRow (b + 1) 27 4 v k xs) (hu : gtE.Sl w C u M) (hk : k + M.length ≤ 16777216) :
    Calls Try.prog 33 #[.pointer (some ⟨b, 0, none⟩), u] w fun e w' => e = .returned (.tuple #[]) ∧ (∃ v', w'.heap[b]? = some (.cells #[v'] 56 (0, 0)) ∧ w'.ownsRow (b + 1) 27 4 v' (k + M.length) (xs ++ gtE.flat M)) ∧ Below b w w' ∧ w.heap.size ≤ w'.heap.size ∧ (∀ (g : Nat) (o : Obj), w.heap[g]? = some o → g ≠ b → some g ≠ v.ownBlock → w'.heap[g]? = some o) := by
  obtain ⟨i0, hi, hz0, hz1, hz2⟩ := info_parts infoG3
  have c0 := cell_at hb 0 _ rfl
  have hbl := lt_of_block hb
  have fb := fun o => free_at hb o
  have Hb := Lib.hid hb
  have Hown := Lib.hid hown
  have Hu := Lib.hid hu
  obtain ⟨pa, ca, hpa, -, -⟩ := id hu
  clear hb hown hu
  subst hpa
  go_enter Try.func33, Try.ntmps33
  go_wp2_with (first
    | (at_builtin; refine wpList_append_sl (E := gtE) rfl _ _ 24 rfl (b + 1) i0 (.agg #[.int .i64 0, .int .i64 0, .int .i64 0, .int .i64 0]) 32 Try.underlying24 hi hz0 hz1 hz2 rfl (by decide) v k xs rfl Hown.out C _ M rfl Hu.out ?d3 ?d4 ?d5 ?_))
  case d3 => unfold maxLen; omega
  case d4 => omega
  case d5 => omega
  intro v' w4 hown' hgrow hat
  have hne : some b ≠ v.ownBlock := fun e => by have := (Hown.out.lt b e.symm).1; omega
  have hb4 := grown_blk hgrow Hb.out hne
  have hB4 : Below b w w4 := (Below.refl b w).grown hgrow (by omega) (fun q hq => by have := (Hown.out.lt q hq).1; omega)
  have hv' : ∀ k, v'.ownBlock = some k → k ≠ b := fun q hq e => by
    subst e
    rcases hat with h | h
    · exact hne (hq.symm.trans h)
    · have := Option.some.inj (hq.symm.trans h); omega
  have Hkeep := Lib.hid (show ∀ (g : Nat) (o : Obj), w.heap[g]? = some o → some g ≠ v.ownBlock → w4.heap[g]? = some o from fun g o ho hc => (hgrow.block g (lt_of_block ho) hc).trans ho)
  have hs4 := hgrow.size
  have Hown4 := Lib.hid hown'
  have HB4 := Lib.hid hB4
  have HO5 := Lib.hid (heap_set hb4 0 v')
  obtain ⟨pv, cv, hpv⟩ : ∃ p c, v' = .slice p (k + M.length) c := by
    rcases hown'.2 with ⟨rfl, h⟩ | ⟨g, cap, cur, rfl, _⟩
    · exact ⟨none, 0, by rw [h]⟩
    · exact ⟨_, _, rfl⟩
  clear c0 hown' hat hgrow hB4 hne fb
  have d0 := cell_at hb4 0 _ rfl
  have fb4 := fun o => free_at hb4 o
  have hbl4 := lt_of_block hb4
  clear hb4
  subst hpv
  go_wp2_with fail
  first | go_end0 | (refine bodyPost_ret (results_none rfl _ _ _) rfl ?_) | (refine bodyPost_end (results_none rfl _ _ _) rfl ?_)
  refine ⟨rfl, ⟨_, HO5.out, row_set1 Hown4.out hv'⟩, HB4.out.setCell (p := ⟨b, 0, none⟩) (Nat.le_refl _) _, ?_, fun g o ho h1 hc => set1_blk h1 (Hkeep.out g o ho hc)⟩
  simp [World.setCell]
  omega
theorem iaddL (C b : Nat) (v u : Value) (k : Nat) (xs : List Value) (M : List Gt) (w : World) (hb : w.heap[b]? = some (.cells #[v] 56 (0, 0))) (hown : w.ownsRow (b + 1) 27 4 v k xs) (hu : gtE.Sl w C u M) (hk : k + M.length ≤ 16777216) :
    Calls Try.prog 33 #[.pointer (some ⟨b, 0, none⟩), u] w fun e w' => e = .returned (.tuple #[]) ∧ (∃ v', w'.heap[b]? = some (.cells #[v'] 56 (0, 0)) ∧ w'.ownsRow (b + 1) 27 4 v' (k + M.length) (xs ++ gtE.flat M)) ∧ Below b w w' :=
  (iaddL2 C b v u k xs M w hb hown hu hk).mono fun _ _ h => ⟨h.1, h.2.1, h.2.2.1⟩
end Go.Proofs.Ytlmiebeffdcfhaa
