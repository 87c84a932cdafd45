/- Plain: what the law of the layers asks. -/
import Derived.Test.YtckfklpgnneodaaGreatBaseB12
import Derived.Test.YtckfklpgnneodaaGreatBaseB18
import Derived.Test.YtckfklpgnneodaaGreatBaseB10
import Derived.Test.YtckfklpgnneodaaGreatBaseB14
namespace Go.Proofs.YtckfklpgnneodaaGreat
theorem hs_perm {L M : List Gt} (h : L.Perm M) : hs L = hs M := by
  unfold hs
  exact (h.map _).sum_nat
theorem ciB_perm {n : Int} {L M : List Gt} (h : L.Perm M) (k : ciB n L = true) : ciB n M = true := by
  obtain ⟨h1, h2, h3⟩ := ciB_parts k
  exact ciB_of (fun g hg => h1 g (h.mem_iff.2 hg)) h2 (by rw [← h.length_eq]; exact h3)
theorem cc_found {m : Nat} {n : Int} {L : List Gt} (hm : m ≤ 12) (hd : CiD m n L) (k : ciB n L = true) : ccB n L = true := by
  obtain ⟨h1, h2, h3⟩ := ciB_parts k
  have h4 := hd.2.2.2
  unfold ccB
  rw [k, Bool.true_and]
  exact cir_found (by omega) (by omega) (fun g hg => by rw [show ((n.toNat : Nat) : Int) = n by omega]; exact h1 g hg) (by omega)
/-- What the law asks of the layers of a valid circuit. -/
theorem law_layers {m : Nat} {n : Int} {L : List Gt} (hm : m ≤ 12) (hd : CiD m n L) (k : ciB n L = true) :
    cfB n (lysM n L) = true ∧ cfN n (lysM n L) = n ∧ (cfL n (lysM n L)).length = L.length ∧ ccB n L = true ∧ ccB n (cfL n (lysM n L)) = true ∧ ccM n (cfL n (lysM n L)) = ccM n L := by
  have hM : lysM n L = layL [] L := if_pos k
  have hsw : Sw L (layL [] L).flatten := by simpa using layL_sw L []
  have hF := ciB_perm hsw.perm k
  have hok : ∀ l ∈ layL [] L, lyOk l := layL_ok fun l h => absurd h (by simp)
  have hB : cfB n (layL [] L) = true := by rw [cfB_all hok]; exact hF
  have hL : cfL n (layL [] L) = (layL [] L).flatten := if_pos hB
  have hN : cfN n (layL [] L) = n := if_pos hB
  rw [hM, hL, hN]
  obtain ⟨h1, h2, h3⟩ := ciB_parts k
  have hv : ∀ g ∈ L, gtB g ((n.toNat : Nat) : Int) = true := fun g hg => by rw [show ((n.toNat : Nat) : Int) = n by omega]; exact h1 g hg
  have hh := hd.2.2.2
  have c1 := cc_found hm hd k
  have f1 : cirB L n.toNat = true := cir_found (by omega) (by omega) hv (by omega)
  have f2 : cirB (layL [] L).flatten n.toNat = true := cir_found (by omega) (by omega) (fun g hg => hv g (hsw.perm.mem_iff.2 hg)) (by rw [← hs_perm hsw.perm]; omega)
  refine ⟨hB, rfl, hsw.perm.length_eq.symm, c1, by unfold ccB; rw [hF, f2]; rfl, ?_⟩
  unfold ccM
  rw [if_pos hF, if_pos k]
  exact (sw_cir (by omega) (by omega) hsw hv f1 f2).symm
theorem law_layers_no {n : Int} {L : List Gt} (k : ciB n L = false) : lysM n L = [] := if_neg (by rw [k]; decide)
end Go.Proofs.YtckfklpgnneodaaGreat
