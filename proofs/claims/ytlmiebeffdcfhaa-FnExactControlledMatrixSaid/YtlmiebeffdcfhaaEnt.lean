/- One entry of a matrix in memory is written. -/
import Derived.Test.YtlmiebeffdcfhaaMtR
namespace Go.Proofs.Ytlmiebeffdcfhaa
open Go.RowKit
/-- One entry of row j is written. -/
theorem MRow.entry {w : World} {B C g : Nat} {M : List (List Dw)} (h : MRow w B C g M) {j t : Nat} {r : List Dw} (hr : M[j]? = some r) (ht : t < r.length) :
    ∃ b pc, w.cell? ⟨g, j, none⟩ = some (.slice (some ⟨b, 0, none⟩) r.length pc) ∧ B ≤ b ∧ b < w.heap.size ∧ DRow w b r ∧ r.length ≤ pc ∧ ∀ z : Dw,
      MRow (((((w.setCell ⟨b, t * 5, none⟩ (.int .i64 z.n.a)).setCell ⟨b, t * 5 + 1, none⟩ (.int .i64 z.n.b)).setCell ⟨b, t * 5 + 2, none⟩ (.int .i64 z.n.c)).setCell ⟨b, t * 5 + 3, none⟩ (.int .i64 z.n.d)).setCell ⟨b, t * 5 + 4, none⟩ (.int .i64 z.e)) B C g (M.set j (r.set t z)) := by
  obtain ⟨a, cap, b, c, hc, h1, h2, h3, hd, hk⟩ := h.turn hr
  obtain ⟨a', cap', e, hcap, hrow⟩ := hd
  obtain ⟨b', e', hb, hc', hR⟩ := hrow (by omega)
  injection e with e1 e2 e3
  subst e1 e3
  subst e'
  refine ⟨b', cap, hc, by omega, hR.lt, hR, hcap, fun z => ?_⟩
  refine hk _ (r.set t z) (by simp) ⟨_, _, by rw [List.length_set], by rw [List.length_set]; exact hcap, fun _ => ⟨b', rfl, hb, hc', hR.put t ht z⟩⟩ ?_
  exact (((((Mid.refl b c w).set hb hc' _).set hb hc' _).set hb hc' _).set hb hc' _).set hb hc' _
end Go.Proofs.Ytlmiebeffdcfhaa
