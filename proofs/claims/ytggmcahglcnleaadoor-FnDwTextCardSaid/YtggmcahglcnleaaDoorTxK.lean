/- The program's splitAmplitude: a range over the string's runes. -/
import Derived.Test.YtggmcahglcnleaaDoorTxG
import Derived.Test.YtggmcahglcnleaaDoorZwDraw2
import Derived.Test.YtggmcahglcnleaaDoorDwW
import Derived.Lib.OthersKept
namespace Go.Proofs.YtggmcahglcnleaaDoor
open Go.RowKit Go.Lib
/-- The five cells of the fields that have been found. -/
def fcells (fs : List (List UInt8)) : Array Value := #[.string (toB (fs.getD 0 [])), .string (toB (fs.getD 1 [])), .string (toB (fs.getD 2 [])), .string (toB (fs.getD 3 [])), .string (toB (fs.getD 4 []))]
theorem fcells_get (fs : List (List UInt8)) {k : Nat} (h : k < 5) : (fcells fs)[k]? = some (.string (toB (fs.getD k []))) := by
  rcases (show k = 0 ∨ k = 1 ∨ k = 2 ∨ k = 3 ∨ k = 4 by omega) with rfl | rfl | rfl | rfl | rfl <;> rfl
theorem fcells_set (fs : List (List UInt8)) (cur : List UInt8) (h : fs.length < 5) : (fcells fs).setIfInBounds fs.length (.string (toB cur)) = fcells (fs ++ [cur]) := by
  match fs, h with
  | [], _ => rfl
  | [_], _ => rfl
  | [_, _], _ => rfl
  | [_, _, _], _ => rfl
  | [_, _, _, _], _ => rfl
def FBox (w : World) (g : Nat) (fs : List (List UInt8)) : Prop := w.heap[g]? = some (.cells (fcells fs) 51 (0, 0))
theorem FBox.set {w : World} {g : Nat} {fs : List (List UInt8)} (h : FBox w g fs) (cur : List UInt8) (hl : fs.length < 5) : FBox (w.setCell ⟨g, fs.length, none⟩ (.string (toB cur))) g (fs ++ [cur]) := by
  unfold FBox
  rw [← fcells_set fs cur hl]
  exact heap_set h _ _
theorem FBox.cell {w : World} {g : Nat} {fs : List (List UInt8)} (h : FBox w g fs) {k : Nat} (hk : k < 5) : w.cell? ⟨g, k, none⟩ = some (.string (toB (fs.getD k []))) := cell_at h k _ (fcells_get fs hk)
theorem FBox.free {w : World} {g : Nat} {fs : List (List UInt8)} (h : FBox w g fs) (k : Nat) : w.frozen? ⟨g, k, none⟩ = false := free_at h k
theorem sep_at (k : Nat) (h : k < 4) (w : World) : (Instr.index 9 (.string ⟨#[44, 44, 44, 47]⟩) (.int .i64 k)).run Tryd.prog w = .ok (.int .u8 (sepC k).toNat) w := by
  rcases (show k = 0 ∨ k = 1 ∨ k = 2 ∨ k = 3 by omega) with rfl | rfl | rfl | rfl <;> kernel_rfl
theorem iterPos_of {w : World} {k : Nat} {s : ByteArray} {p : Nat} (h : w.heap[k]? = some (.stringIter s p)) : w.iterPos k = p := by simp [World.iterPos, h]
/-- What a cut of the text hands on: the fields, or that there are none. -/
def CutUp (s : ByteArray) (e : Ending) : Prop :=
  ∃ (q0 q1 q2 q3 q4 : List UInt8) (b : Bool), e = .returned (.tuple #[.agg #[.string (toB q0), .string (toB q1), .string (toB q2), .string (toB q3), .string (toB q4)], .bool b]) ∧
    scan s.data.toList [] [] = if b then some [q0, q1, q2, q3, q4] else none
theorem five_of (fs : List (List UInt8)) (cur : List UInt8) (h : fs.length = 4) : fs ++ [cur] = [(fs ++ [cur]).getD 0 [], (fs ++ [cur]).getD 1 [], (fs ++ [cur]).getD 2 [], (fs ++ [cur]).getD 3 [], (fs ++ [cur]).getD 4 []] := by
  match fs, h with
  | [a, b, c, d], _ => rfl
theorem conv_sep (k : Nat) (w : World) : (convert 5 21 (.int .u8 (sepC k).toNat)).run Tryd.prog w = .ok (.int .i32 (sepC k).toNat) w := by
  unfold sepC
  split <;> kernel_rfl
theorem ext_toB (s : ByteArray) (a b : Nat) : s.extract a b = toB ((s.data.toList.take b).drop a) := by
  apply ByteArray.ext
  simp [toB, ByteArray.data_extract, List.drop_take]
  apply Array.ext'
  simp
theorem iter_new {w : World} {n : Nat} (h : n = w.heap.size) (s : ByteArray) : (w.iter s 0).heap[n]? = some (.stringIter s 0) := by subst h; exact World.iter_heap w s 0
theorem alloc_new {w : World} {n : Nat} (h : n = w.heap.size) (o : Obj) : (w.alloc o).heap[n]? = some o := by subst h; exact heap_alloc_new w o
attribute [local irreducible] World.cell?
set_option maxRecDepth 100000 in
set_option maxHeartbeats 3200000 in
theorem isplit (s : ByteArray) (w : World) (hs : s.size ≤ 1048576) :
    Calls Tryd.prog 22 #[.string s] w fun e w' => CutUp s e ∧ Below w.heap.size w w' := by
  go_enter Tryd.func22, Tryd.ntmps22
  go_wp2_with fail
  go_loopw [5, 6] (fun f st wr => ∃ (fs : List (List UInt8)) (start pos : Nat), f = .int .i64 fs.length ∧ st = .int .i64 start ∧ fs.length ≤ 4 ∧ start ≤ pos ∧ pos ≤ s.size ∧
      Hid (scan (s.data.toList.drop pos) ((s.data.toList.take pos).drop start) fs = scan s.data.toList [] []) ∧
      Hid (wr.heap[w.heap.size + 1 + 1]? = some (.stringIter s pos)) ∧ Hid (FBox wr (w.heap.size + 1) fs) ∧ Hid (FBox wr w.heap.size []) ∧ Hid (Below w.heap.size w wr)) (fun _ _ wr => s.size - wr.iterPos (w.heap.size + 1 + 1))
  case atStart =>
    refine ⟨[], 0, 0, rfl, rfl, by simp, Nat.le_refl _, Nat.zero_le _, rfl, ?_, ?_, ?_, ?_⟩
    · exact iter_new (by simp) s
    · exact alloc_blk _ (alloc_new (by simp) _)
    · exact alloc_blk _ (alloc_blk _ (alloc_new rfl _))
    · exact (((Below.refl _ _).alloc (Nat.le_refl _) _).alloc (by simp) _).alloc (by simp; omega) _
  case round =>
    obtain ⟨fs, start, pos, rfl, rfl, h4, hsp, hps, HS, HI, HF, HR, HB⟩ := hrel
    have hpos0 := iterPos_of HI.out
    have hL : s.data.toList.length = s.size := by simp
    by_cases hp : pos < s.size
    · have hnx : ∀ ty, (Instr.next (.pointer (some ⟨w.heap.size + 1 + 1, 0, none⟩)) true ty).run Tryd.prog wr = _ := fun ty => Lib.run_next_any_at wr (w.heap.size + 1 + 1) s pos ty HI.out hp
      have HI1 := Lib.hid (Lib.iterAt_heap wr (w.heap.size + 1 + 1) s pos (pos + (Utf8.decode s pos).2) HI.out)
      have HF1 : Hid (FBox (wr.iterAt (w.heap.size + 1 + 1) s (pos + (Utf8.decode s pos).2)) (w.heap.size + 1) fs) := (Lib.iterAt_other _ _ _ _ _ (by omega)).trans HF.out
      have HR1 : Hid (FBox (wr.iterAt (w.heap.size + 1 + 1) s (pos + (Utf8.decode s pos).2)) w.heap.size []) := (Lib.iterAt_other _ _ _ _ _ (by omega)).trans HR.out
      have HB1 := Lib.hid (Lib.below_iterAt HB.out (k := w.heap.size + 1 + 1) (by omega) s (pos + (Utf8.decode s pos).2))
      have hru := rune_at s pos hp
      generalize wr.iterAt (w.heap.size + 1 + 1) s (pos + (Utf8.decode s pos).2) = W1 at *
      clear HI HF HR HB
      generalize Utf8.decode s pos = d at *
      obtain ⟨r, wd⟩ := d
      simp only [] at hnx HI1 hru HB1
      rcases hru with ⟨hlt, hdec⟩ | ⟨h128, hw1, hw2, hnp⟩
      · injection hdec with hr hwd
        subst hr hwd
        have hget : s.data.toList.drop pos = s[pos] :: s.data.toList.drop (pos + 1) := drop_at (by simpa using hp)
        have htk : (s.data.toList.take (pos + 1)).drop start = (s.data.toList.take pos).drop start ++ [s[pos]] := by
          rw [List.take_add_one, List.drop_append_of_le_length (by simp; omega), List.getElem?_eq_getElem (by simpa using hp)]
          rfl
        generalize s[pos] = c at *
        by_cases hpt : Parts c
        · have hq1 : (c.toNat != 44 && c.toNat != 47) = false := by rcases hpt with rfl | rfl <;> rfl
          by_cases hbad : fs.length = 4 ∨ c ≠ sepC fs.length
          · have HS1 : Hid (scan s.data.toList [] [] = none) := by
              have := HS.out
              rw [hget, scan_bad hpt hbad] at this
              exact this.symm
            obtain ⟨e0, e1, e2, e3, e4⟩ := blk_cells5 HR1.out
            have f1 := fun o => free_at HR1.out o
            obtain ⟨m0, m1, m2, m3, m4⟩ := blk_cells5 (set5_at (u0 := .string ⟨#[]⟩) (u1 := .string ⟨#[]⟩) (u2 := .string ⟨#[]⟩) (u3 := .string ⟨#[]⟩) (u4 := .string ⟨#[]⟩) HR1.out)
            have HC : Hid (CutUp s (.returned (.tuple #[.agg #[.string ⟨#[]⟩, .string ⟨#[]⟩, .string ⟨#[]⟩, .string ⟨#[]⟩, .string ⟨#[]⟩], .bool false]))) := ⟨[], [], [], [], [], false, rfl, HS1.out⟩
            have hsep : fs.length < 4 → ∀ w, (Instr.index 9 (.string ⟨#[44, 44, 44, 47]⟩) (.int .i64 fs.length)).run Tryd.prog w = .ok (.int .u8 (sepC fs.length).toNat) w := fun h w => sep_at fs.length h w
            have hcv := conv_sep fs.length
            by_cases hfl : fs.length = 4
            · have hfe : ((fs.length : Int) == 4) = true := by simp [hfl]
              clear hbad hsep hcv hfl
              rcases hpt with rfl | rfl
              · go_wp2_with fail
                refine bodyPost_ret (v := .tuple #[.agg #[.string ⟨#[]⟩, .string ⟨#[]⟩, .string ⟨#[]⟩, .string ⟨#[]⟩, .string ⟨#[]⟩], .bool false]) (by simp only [results, Tryd.results22]; simp [go_sem, m0, m1, m2, m3, m4]) rfl ⟨HC.out, ?_⟩
                have := HB1.out
                go_grown
              · go_wp2_with fail
                refine bodyPost_ret (v := .tuple #[.agg #[.string ⟨#[]⟩, .string ⟨#[]⟩, .string ⟨#[]⟩, .string ⟨#[]⟩, .string ⟨#[]⟩], .bool false]) (by simp only [results, Tryd.results22]; simp [go_sem, m0, m1, m2, m3, m4]) rfl ⟨HC.out, ?_⟩
                have := HB1.out
                go_grown
            · have hfe : ((fs.length : Int) == 4) = false := by simp; omega
              have hsep := hsep (by omega)
              have hbb : c ≠ sepC fs.length := hbad.resolve_left hfl
              have hne : ((c.toNat : Int) != ((sepC fs.length).toNat : Int)) = true := by
                simp
                intro h; exact hbb (UInt8.toNat_inj.1 (by omega))
              clear hbad hfl hbb
              generalize sepC fs.length = c2 at *
              rcases hpt with rfl | rfl
              · have hne1 : ((44 : Int) != (c2.toNat : Int)) = true := hne
                have hne2 : ((44 : Int) == (c2.toNat : Int)) = false := by simpa using hne1
                clear hne
                go_wp2_with fail
                refine bodyPost_ret (v := .tuple #[.agg #[.string ⟨#[]⟩, .string ⟨#[]⟩, .string ⟨#[]⟩, .string ⟨#[]⟩, .string ⟨#[]⟩], .bool false]) (by simp only [results, Tryd.results22]; simp [go_sem, m0, m1, m2, m3, m4]) rfl ⟨HC.out, ?_⟩
                have := HB1.out
                go_grown
              · have hne1 : ((47 : Int) != (c2.toNat : Int)) = true := hne
                have hne2 : ((47 : Int) == (c2.toNat : Int)) = false := by simpa using hne1
                clear hne
                go_wp2_with fail
                refine bodyPost_ret (v := .tuple #[.agg #[.string ⟨#[]⟩, .string ⟨#[]⟩, .string ⟨#[]⟩, .string ⟨#[]⟩, .string ⟨#[]⟩], .bool false]) (by simp only [results, Tryd.results22]; simp [go_sem, m0, m1, m2, m3, m4]) rfl ⟨HC.out, ?_⟩
                have := HB1.out
                go_grown
          · have hl4 : fs.length < 4 := by omega
            have hceq : c = sepC fs.length := Classical.byContradiction fun h => hbad (.inr h)
            clear hbad
            have hsep := fun w => sep_at fs.length hl4 w
            have hcv := conv_sep fs.length
            have hfe : ((fs.length : Int) == 4) = false := by simp; omega
            have hc0 := HF1.out.cell (k := fs.length) (by omega)
            have hz0 := HF1.out.free fs.length
            have HS1 : Hid (scan (s.data.toList.drop (pos + 1)) ((s.data.toList.take (pos + 1)).drop (pos + 1)) (fs ++ [(s.data.toList.take pos).drop start]) = scan s.data.toList [] []) := by
              have := HS.out
              rw [hget, scan_hit hl4 hceq] at this
              rw [show (s.data.toList.take (pos + 1)).drop (pos + 1) = [] from List.drop_of_length_le (by simp; omega)]
              exact this
            have HF2 := HF1.out.set ((s.data.toList.take pos).drop start) (by omega)
            rw [← ext_toB] at HF2
            have HF2 := Lib.hid HF2
            have HR2 : Hid (FBox (W1.setCell ⟨w.heap.size + 1, fs.length, none⟩ (.string (s.extract start pos))) w.heap.size []) := by
              have e : w.heap.size ≠ w.heap.size + 1 := by omega
              unfold FBox
              rw [Below.heap_setCell _ _ _ _ e]
              exact HR1.out
            have HI2 : Hid ((W1.setCell ⟨w.heap.size + 1, fs.length, none⟩ (.string (s.extract start pos))).heap[w.heap.size + 1 + 1]? = some (.stringIter s (pos + 1))) := by
              have e : w.heap.size + 1 + 1 ≠ w.heap.size + 1 := by omega
              rw [Below.heap_setCell _ _ _ _ e]
              exact HI1.out
            have HB2 := Lib.hid (HB1.out.setCell (p := ⟨w.heap.size + 1, fs.length, none⟩) (Nat.le_succ _) (.string (s.extract start pos)))
            rw [← hceq] at hsep hcv
            clear hceq HF1 HR1 HI1 HB1 HS hget htk
            rcases hpt with rfl | rfl
            · have hsep : ∀ w, (Instr.index 9 (.string ⟨#[44, 44, 44, 47]⟩) (.int .i64 fs.length)).run Tryd.prog w = .ok (.int .u8 44) w := hsep
              have hcv : ∀ w, (convert 5 21 (.int .u8 44)).run Tryd.prog w = .ok (.int .i32 44) w := hcv
              go_wp2_with fail
              go_roundw
              case rel => exact ⟨fs ++ [(s.data.toList.take pos).drop start], pos + 1, pos + 1, by simp, by simp, by simp; omega, Nat.le_refl _, hp, HS1, HI2, HF2, HR2, HB2⟩
              case measure => rw [iterPos_of HI2.out, hpos0]; omega
            · have hsep : ∀ w, (Instr.index 9 (.string ⟨#[44, 44, 44, 47]⟩) (.int .i64 fs.length)).run Tryd.prog w = .ok (.int .u8 47) w := hsep
              have hcv : ∀ w, (convert 5 21 (.int .u8 47)).run Tryd.prog w = .ok (.int .i32 47) w := hcv
              go_wp2_with fail
              go_roundw
              case rel => exact ⟨fs ++ [(s.data.toList.take pos).drop start], pos + 1, pos + 1, by simp, by simp, by simp; omega, Nat.le_refl _, hp, HS1, HI2, HF2, HR2, HB2⟩
              case measure => rw [iterPos_of HI2.out, hpos0]; omega
        · have HS1 : Hid (scan (s.data.toList.drop (pos + 1)) ((s.data.toList.take (pos + 1)).drop start) fs = scan s.data.toList [] []) := by
            have := HS.out
            rw [scan_rune (wd := 1) hsp (by omega) (by rw [hget]; simpa using hpt)] at this
            exact this
          have h44 : ((c.toNat : Int) == 44) = false := by
            simp
            intro h; exact hpt (.inl (UInt8.toNat_inj.1 (by show c.toNat = 44; omega)))
          have h47 : ((c.toNat : Int) == 47) = false := by
            simp
            intro h; exact hpt (.inr (UInt8.toNat_inj.1 (by show c.toNat = 47; omega)))
          have g44 : ((c.toNat : Int) != 44) = true := by simp [bne, h44]
          have g47 : ((c.toNat : Int) != 47) = true := by simp [bne, h47]
          clear HS hget htk hpt
          go_wp2_with fail
          go_roundw
          case rel => exact ⟨fs, start, pos + 1, rfl, rfl, h4, by omega, hp, HS1, HI1, HF1, HR1, HB1⟩
          case measure => rw [iterPos_of HI1.out, hpos0]; omega
      · have HS1 : Hid (scan (s.data.toList.drop (pos + wd)) ((s.data.toList.take (pos + wd)).drop start) fs = scan s.data.toList [] []) := by
          have := HS.out
          rw [scan_rune (wd := wd) hsp (by omega) hnp] at this
          exact this
        have h44 : ((r : Int) == 44) = false := by simp; omega
        have h47 : ((r : Int) == 47) = false := by simp; omega
        have g44 : ((r : Int) != 44) = true := by simp [bne, h44]
        have g47 : ((r : Int) != 47) = true := by simp [bne, h47]
        clear HS hnp
        go_wp2_with fail
        go_roundw
        case rel => exact ⟨fs, start, pos + wd, rfl, rfl, h4, by omega, hw2, HS1, HI1, HF1, HR1, HB1⟩
        case measure => rw [iterPos_of HI1.out, hpos0]; omega
    · have hnx : ∀ ty, (Instr.next (.pointer (some ⟨w.heap.size + 1 + 1, 0, none⟩)) true ty).run Tryd.prog wr = _ := fun ty => Lib.run_next_end_at wr (w.heap.size + 1 + 1) s pos ty HI.out hp
      obtain rfl : pos = s.size := by omega
      have hc := HF.out.cell (k := fs.length) (by omega)
      have hz := HF.out.free fs.length
      go_upto_region 12 with fail
      have HF2 := HF.out.set ((s.data.toList.take s.size).drop start) (by omega)
      rw [← ext_toB] at HF2
      have HF2 := Lib.hid HF2
      have HR2 : Hid (FBox (wr.setCell ⟨w.heap.size + 1, fs.length, none⟩ (.string (s.extract start s.size))) w.heap.size []) := by
        have e : w.heap.size ≠ w.heap.size + 1 := by omega
        unfold FBox
        rw [Below.heap_setCell _ _ _ _ e]
        exact HR.out
      have HB2 := Lib.hid (HB.out.setCell (p := ⟨w.heap.size + 1, fs.length, none⟩) (Nat.le_succ _) (.string (s.extract start s.size)))
      have HS2 := HS.out
      rw [List.drop_of_length_le (by omega), scan] at HS2
      generalize wr.setCell ⟨w.heap.size + 1, fs.length, none⟩ (.string (s.extract start s.size)) = W2 at *
      clear HI HF HR HB hc hz hnx hpos0 HS
      have HS3 := Lib.hid HS2
      clear HS2
      generalize (s.data.toList.take s.size).drop start = cur at *
      obtain ⟨e0, e1, e2, e3, e4⟩ := blk_cells5 HF2.out
      have hfive := five_of fs cur
      generalize (fs ++ [cur]).getD 0 [] = q0 at *
      generalize (fs ++ [cur]).getD 1 [] = q1 at *
      generalize (fs ++ [cur]).getD 2 [] = q2 at *
      generalize (fs ++ [cur]).getD 3 [] = q3 at *
      generalize (fs ++ [cur]).getD 4 [] = q4 at *
      obtain ⟨k0, k1, k2, k3, k4⟩ := blk_cells5 HR2.out
      have f1 := fun o => free_at HR2.out o
      obtain ⟨m0, m1, m2, m3, m4⟩ := blk_cells5 (set5_at (u0 := .string (toB q0)) (u1 := .string (toB q1)) (u2 := .string (toB q2)) (u3 := .string (toB q3)) (u4 := .string (toB q4)) HR2.out)
      have hfin : ∀ b : Bool, decide (fs.length = 4) = b → CutUp s (.returned (.tuple #[.agg #[.string (toB q0), .string (toB q1), .string (toB q2), .string (toB q3), .string (toB q4)], .bool b])) := by
        intro b hb
        refine ⟨q0, q1, q2, q3, q4, b, rfl, ?_⟩
        rw [← HS3.out]
        subst hb
        by_cases h : fs.length = 4
        · simp [h, hfive h]
        · simp [h]
      have Hfin := Lib.hid hfin
      clear hfin hfive
      by_cases hfl : fs.length = 4
      · have hfe : ((fs.length : Int) == 4) = true := by simp [hfl]
        have Hf := Lib.hid (Hfin.out true (by simp [hfl]))
        clear hfl
        go_wp2_with fail
        refine bodyPost_ret (v := .tuple #[.agg #[.string (toB q0), .string (toB q1), .string (toB q2), .string (toB q3), .string (toB q4)], .bool true]) (by simp only [results, Tryd.results22]; simp [go_sem, m0, m1, m2, m3, m4]) rfl ⟨Hf.out, ?_⟩
        have := HB2.out
        go_grown
      · have hfe : ((fs.length : Int) == 4) = false := by simp; omega
        have Hf := Lib.hid (Hfin.out false (by simp [hfl]))
        clear hfl
        go_wp2_with fail
        refine bodyPost_ret (v := .tuple #[.agg #[.string (toB q0), .string (toB q1), .string (toB q2), .string (toB q3), .string (toB q4)], .bool false]) (by simp only [results, Tryd.results22]; simp [go_sem, m0, m1, m2, m3, m4]) rfl ⟨Hf.out, ?_⟩
        have := HB2.out
        go_grown
end Go.Proofs.YtggmcahglcnleaaDoor
