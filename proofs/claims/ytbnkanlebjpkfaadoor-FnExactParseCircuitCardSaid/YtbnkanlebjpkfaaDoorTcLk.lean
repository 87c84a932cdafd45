/- The program's GateKind: a map made from the names, read at the word. -/
import Derived.Test.YtbnkanlebjpkfaaDoorTcLd
import Derived.Test.YtbnkanlebjpkfaaDoorB08
import Derived.Maps.OwnSet
namespace Go.Proofs.YtbnkanlebjpkfaaDoor
open Go.RowKit Go.Lib Go.Maps
theorem kmLaw : Keyed Tryd.prog 9 := string_keyed Tryd.underlying9
theorem kmZero (w : World) : (zeroValue 3).run Tryd.prog w = .ok (.int .i64 0) w := by kernel_rfl
theorem kmKey {s : ByteArray} (hs : s.size ≤ maxLen) : keyOf Tryd.prog 9 (.string s) = some (.string s.data.toList) := WideMaps.keyOf_string_mk Tryd.underlying9 hs
theorem nmB_smallE : ∀ j : Fin 12, (nmB (((j.val : Nat) : Int) + 1)).size ≤ 4 := by decide +kernel
attribute [local irreducible] World.cell?
set_option maxRecDepth 100000 in
set_option maxHeartbeats 3200000 in
theorem ikinds (w : World) (hn : HasNames w) :
    Calls Tryd.prog 50 #[] w fun e w' => e = .returned (.map (some w.heap.size)) ∧ w'.ownsMap Tryd.prog 9 (plainElem Tryd.prog 3) w.heap.size 12 (kmD 12) ∧ Below w.heap.size w w' := by
  have hmm := @run_makeMap Tryd.prog
  have Hn := Lib.hid hn
  clear hn
  go_enter Tryd.func50, Tryd.ntmps50
  go_wp2_with fail
  go_loopw [2] (fun i wr => ∃ j : Nat, j ≤ 12 ∧ i = .int .i64 ((j : Int) + 1) ∧ Hid (wr.ownsMap Tryd.prog 9 (plainElem Tryd.prog 3) w.heap.size j (kmD j)) ∧ Hid (Below w.heap.size w wr)) (fun i _ => 13 - (intOf i).toNat)
  case atStart => exact ⟨0, by omega, rfl, World.ownsMap_made _ _ _ _, (Below.refl _ _).alloc (Nat.le_refl _) _⟩
  case round =>
    obtain ⟨j, hj, rfl, Ho, Hb⟩ := hrel
    by_cases hlt : j < 12
    · have hle : (j : Int) + 1 ≤ 12 := by omega
      have HN := Lib.hid (iname0 ((j : Int) + 1) wr (Hn.out.below Hb.out))
      have hsm : (nmB ((j : Int) + 1)).size ≤ maxLen := Nat.le_trans (nmB_smallE ⟨j, hlt⟩) (by decide)
      have hkey := kmKey hsm
      have Hstep := Lib.hid (show kmD (j + 1) = (kmD j).put (.string (nmB ((j : Int) + 1)).data.toList) (.lit (.int .i64 ((j : Int) + 1))) from rfl)
      clear hsm
      generalize nmB ((j : Int) + 1) = s at *
      go_wp2_with fail
      refine HN.out.mono ?_
      rintro e w1 ⟨rfl, rfl⟩
      go_wp2_with (first | (at_mapUpdate; refine wpList_mapUpdate_own _ rfl _ _ _ 69 rfl 9 3 kmLaw Tryd.underlying69 _ w.heap.size j _ rfl Ho.out (by unfold maxLen; omega) _ _ _ rfl rfl hkey _ [] (plainElem_int Tryd.underlying3 (WalkArith.wf_i64 (by omega))) ?_))
      intro w2 hown2 hgrow2
      have R1 := Lib.hid (Hstep.out.symm ▸ hown2)
      have R2 := Lib.hid (Hb.out.grown hgrow2 Hb.out.size (fun j hj => by cases hj; exact Nat.le_refl _))
      clear hown2 hgrow2
      go_wp2_with fail
      go_roundw
      case rel => exact ⟨j + 1, by omega, by go_num, R1, R2⟩
      case measure => simp [intOf]; omega
    · obtain rfl : j = 12 := by omega
      go_wp2_with fail
      go_ret
      exact ⟨rfl, Ho.out, Hb.out⟩
set_option maxRecDepth 100000 in
set_option maxHeartbeats 3200000 in
theorem ikind12 (s : ByteArray) (w : World) (hs : s.size ≤ maxLen) (hn : HasNames w) :
    Calls Tryd.prog 24 #[.string s] w fun e w' => e = .returned (.int .i64 (gkV s)) ∧ Below w.heap.size w w' := by
  have HK := Lib.hid (ikinds w hn)
  have hkey := kmKey hs
  have Hall := Lib.hid (kmD_all s)
  clear hn
  go_enter Tryd.func24, Tryd.ntmps24
  go_wp2_with fail
  refine HK.out.mono ?_
  rintro e w1 ⟨rfl, hown, hb1⟩
  have Hb1 := Lib.hid hb1
  clear hb1
  go_wp2_with (first | (at_lookup; refine wpList_lookup_own_int _ rfl _ _ 69 rfl 9 3 .i64 kmLaw Tryd.underlying69 Tryd.underlying3 (kmZero _) w.heap.size 12 _ rfl hown _ _ rfl hkey ?_; intro c hat hwc))
  have hc : c = gkV s := by
    rw [Hall.out] at hat
    injection hat with hat
    injection hat with _ hat
    exact hat.symm
  subst hc
  go_wp2_with fail
  go_ret
  exact ⟨rfl, Hb1.out⟩
end Go.Proofs.YtbnkanlebjpkfaaDoor
