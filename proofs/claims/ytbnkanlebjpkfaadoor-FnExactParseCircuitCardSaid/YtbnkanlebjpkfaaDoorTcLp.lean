/- The program's parseHeader. -/
import Derived.Test.YtbnkanlebjpkfaaDoorTcLj
import Derived.Test.YtbnkanlebjpkfaaDoorStdCut
namespace Go.Proofs.YtbnkanlebjpkfaaDoor
open Go.RowKit Go.Lib
theorem hdR_size (l : ByteArray) : (hdR l).size ≤ l.size := by
  unfold hdR
  rw [toB_size, List.length_drop]
  simp
/-- The header's number; whether the first line is one. -/
noncomputable def hnV (l : ByteArray) : Int := if hdB l then nbV (hdR l) else 0
noncomputable def hnB (l : ByteArray) : Bool := hdB l && nbB (hdR l)
theorem hn_bounds (l : ByteArray) : 0 ≤ hnV l ∧ hnV l ≤ 999999 := by
  unfold hnV
  split
  · exact nb_bounds _
  · omega
attribute [local irreducible] World.cell?
set_option maxRecDepth 100000 in
set_option maxHeartbeats 1600000 in
theorem ihead (l : ByteArray) (w : World) (hs : l.size ≤ 1048576) (hp : HasPow w) (he : HasErrs w) :
    Calls Tryd.prog 45 #[.string l] w fun e w' => e = .returned (.tuple #[.int .i64 (hnV l), .bool (hnB l)]) ∧ Below w.heap.size w w' := by
  have Hc := Lib.hid (fun w => Tryd.strings_CutPrefix l ⟨#[113, 117, 98, 105, 116, 115, 32]⟩ w)
  have e1 : Lib.hasPrefix l.data.toList (ByteArray.mk #[113, 117, 98, 105, 116, 115, 32]).data.toList = hdB l := rfl
  rw [e1] at Hc
  have Hn := Lib.hid (ipnum (hdR l) w (Nat.le_trans (hdR_size l) hs) hp he)
  unfold hnV hnB
  cases h : hdB l with
  | false =>
    rw [h] at Hc
    clear e1
    generalize (⟨(Lib.trimPrefix l.data.toList (ByteArray.mk #[113, 117, 98, 105, 116, 115, 32]).data.toList).toArray⟩ : ByteArray) = R at *
    go_enter Tryd.func45, Tryd.ntmps45
    go_wp2_with fail
    refine (Hc.out _).mono ?_
    rintro e w1 ⟨rfl, rfl⟩
    go_wp2_with fail
    go_returns
    exact ⟨rfl, Below.refl _ _⟩
  | true =>
    rw [h] at Hc
    have e2 : (⟨(Lib.trimPrefix l.data.toList (ByteArray.mk #[113, 117, 98, 105, 116, 115, 32]).data.toList).toArray⟩ : ByteArray) = hdR l := by
      unfold Lib.trimPrefix hdR
      rw [e1, h]
      rfl
    rw [e2] at Hc
    clear e1 e2
    generalize hdR l = R at *
    generalize nbV R = V at *
    generalize nbB R = t at *
    go_enter Tryd.func45, Tryd.ntmps45
    go_wp2_with fail
    refine (Hc.out _).mono ?_
    rintro e w1 ⟨rfl, rfl⟩
    go_wp2_with fail
    refine Hn.out.mono ?_
    rintro e w2 ⟨rfl, hb2⟩
    have Hb2 := Lib.hid hb2
    clear hb2
    go_wp2_with fail
    go_returns
    exact ⟨by simp, Hb2.out⟩
end Go.Proofs.YtbnkanlebjpkfaaDoor
