/- spec.SplitByte: the pieces, in a row of its own. -/
import Derived.Test.YtlbgkdkgembkkaaDoorRowS
import Derived.Test.YtlbgkdkgembkkaaDoorSplitP
namespace Go.Proofs.YtlbgkdkgembkkaaDoor
open Go.RowKit Go.Lib
theorem infoStr : (Tryd.prog.info? 9).map (fun i => (i.zero, i.size, i.bytes)) = some (some (.string ⟨#[]⟩), 1, 16) := by kernel_rfl
set_option maxRecDepth 100000 in
set_option maxHeartbeats 400000 in
theorem split_any (s : ByteArray) (c : UInt8) (w : World) (hs : s.size ≤ 1048576) :
    Calls Tryd.prog 18 #[.string s, .int .u8 c.toNat] w fun e w' => (∃ v, e = .returned v ∧ w'.ownsRow w.heap.size 9 1 v (pcs c s).length ((pcs c s).map Value.string)) ∧ Below w.heap.size w w' := by
  obtain ⟨i0, hi, hz0, hz1, hz2⟩ := info_parts infoStr
  go_enter Tryd.func18, Tryd.ntmps18
  go_wp2_with fail
  go_loopw [5, 6, 7] (fun v fr i wr => ∃ (k f : Nat) (done : List ByteArray), i = .int .i64 k ∧ fr = .int .i64 f ∧ wr.ownsRow w.heap.size 9 1 v done.length (done.map Value.string) ∧ done.length ≤ k ∧ Below w.heap.size w wr ∧
      ((k ≤ s.size ∧ f ≤ k ∧ (∀ j, f ≤ j → j < k → s.data.toList[j]? ≠ some c) ∧ done ++ pcs c (s.extract f s.size) = pcs c s) ∨ (k = s.size + 1 ∧ done = pcs c s))) (fun _ _ i _ => s.size + 1 - (intOf i).toNat)
  case atStart => exact ⟨0, 0, [], rfl, rfl, World.ownsRow_lit _ #[] 0 (Nat.le_refl _) (Nat.zero_le _) rfl, Nat.zero_le _, (Below.refl _ _).alloc (Nat.le_refl _) _, Or.inl ⟨Nat.zero_le _, Nat.le_refl _, fun j _ h => absurd h (by omega), by rw [pcs_whole]; rfl⟩⟩
  case round =>
    obtain ⟨k, f, done, rfl, rfl, hown, hdl, hbel, hst⟩ := hrel
    have Hown := Lib.hid hown
    have Hbel := Lib.hid hbel
    have hsz := hbel.size
    clear hown hbel
    rcases hst with ⟨hk, hfk, hno, hdone⟩ | ⟨rfl, hdone⟩
    · have Hno := Lib.hid hno
      have Hdone := Lib.hid hdone
      clear hno hdone
      by_cases hend : k = s.size
      · subst hend
        have he : ((s.size : Int) == s.size) = true := by simp
        go_wp2_with (first
          | (at_builtin; refine wpList_append_own _ rfl _ _ 31 rfl w.heap.size 9 i0 (.string ⟨#[]⟩) 1 16 Tryd.underlying31 hi hz0 hz1 hz2 rfl (by decide) _ _ _ rfl (Hown.out.alloc _) ⟨wr.heap.size, 0, none⟩ 1 1 [.string (s.extract f s.size)] rfl rfl ?e1 ?e2 ?e3 ?e4 ?e5 ?_))
        case e1 =>
          intro j u hj
          match j, hj with
          | 0, hj => simp at hj; subst hj; simp [Addr.add]
        case e2 => intro u hu; simp at hu; subst hu; rfl
        case e3 => unfold maxLen; omega
        case e4 => omega
        case e5 => simp; omega
        intro v' w1 hown' hgrow _
        have hb1 := ((Hbel.out.alloc (by omega) (.cells #[.string (s.extract f s.size)] 9)).grown hgrow (by simp; omega) (fun q hq => by have := Hown.out.lt q hq; omega))
        have Hown1 := Lib.hid hown'
        have Hb1 := Lib.hid hb1
        clear hown' hgrow hb1
        go_wp2_with fail
        go_roundw
        case rel =>
          refine ⟨s.size + 1, s.size + 1, done ++ [s.extract f s.size], by go_num, by go_num, by simpa using Hown1.out, by simp; omega, Hb1.out, ?_⟩
          refine Or.inr ⟨rfl, ?_⟩
          rw [← Hdone.out, pcs_last c s f (fun j a b => Hno.out j a b)]
        case measure => first | (simp [intOf]; done) | (simp [intOf]; omega)
      · have hlt : k < s.size := by omega
        have he : ((k : Int) == s.size) = false := by simp; omega
        have hget : s.data.toList[k]? = some s[k] := by rw [List.getElem?_eq_getElem (by simpa using hlt)]; rfl
        have Hget := Lib.hid hget
        clear hget
        by_cases hc : s[k] = c
        · have hq : ((s[k].toNat : Int) == c.toNat) = true := by rw [hc]; simp
          have Hc := Lib.hid hc
          clear hc
          go_wp2_with (first
            | (at_builtin; refine wpList_append_own _ rfl _ _ 31 rfl w.heap.size 9 i0 (.string ⟨#[]⟩) 1 16 Tryd.underlying31 hi hz0 hz1 hz2 rfl (by decide) _ _ _ rfl (Hown.out.alloc _) ⟨wr.heap.size, 0, none⟩ 1 1 [.string (s.extract f k)] rfl rfl ?d1 ?d2 ?d3 ?d4 ?d5 ?_))
          case d1 =>
            intro j u hj
            match j, hj with
            | 0, hj => simp at hj; subst hj; simp [Addr.add]
          case d2 => intro u hu; simp at hu; subst hu; rfl
          case d3 => unfold maxLen; omega
          case d4 => omega
          case d5 => simp; omega
          intro v' w1 hown' hgrow _
          have hb1 := ((Hbel.out.alloc (by omega) (.cells #[.string (s.extract f k)] 9)).grown hgrow (by simp; omega) (fun q hq => by have := Hown.out.lt q hq; omega))
          have Hown1 := Lib.hid hown'
          have Hb1 := Lib.hid hb1
          clear hown' hgrow hb1
          go_wp2_with fail
          go_roundw
          case rel =>
            refine ⟨k + 1, k + 1, done ++ [s.extract f k], by go_num, by go_num, by simpa using Hown1.out, by simp; omega, Hb1.out, ?_⟩
            refine Or.inl ⟨by omega, Nat.le_refl _, fun j a b => absurd b (by omega), ?_⟩
            rw [← Hdone.out, pcs_step c s f k hfk hlt (by rw [Hget.out, Hc.out]) (fun j a b => Hno.out j a b)]
            simp
          case measure => first | (simp [intOf]; done) | (simp [intOf]; omega)
        · have hq : ((s[k].toNat : Int) == c.toNat) = false := by
            simp
            intro x; exact hc (UInt8.toNat_inj.1 (by omega))
          have Hc := Lib.hid hc
          clear hc
          go_wp2_with fail
          go_roundw
          case rel =>
            refine ⟨k + 1, f, done, by go_num, rfl, Hown.out, by omega, Hbel.out, Or.inl ⟨by omega, by omega, fun j a b => ?_, Hdone.out⟩⟩
            by_cases e : j = k
            · subst e; rw [Hget.out]; intro e; injection e with e; exact Hc.out e
            · exact Hno.out j a (by omega)
          case measure => first | (simp [intOf]; done) | (simp [intOf]; omega)
    · have Hdone := Lib.hid hdone
      clear hdone
      go_wp2_with fail
      go_ret
      exact ⟨⟨_, rfl, by rw [← Hdone.out]; exact Hown.out⟩, Hbel.out⟩
end Go.Proofs.YtlbgkdkgembkkaaDoor
