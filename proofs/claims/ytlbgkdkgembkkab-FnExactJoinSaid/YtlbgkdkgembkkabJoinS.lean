/- spec.Join: the elements with the separator between them. -/
import Derived.Test.YtlbgkdkgembkkabCopyS
import Derived.Lib.Join
namespace Go.Proofs.Ytlbgkdkgembkkab
open Go.RowKit Go.Lib
theorem join_snoc (l : List (List UInt8)) (x sep : List UInt8) (h : l ≠ []) : join (l ++ [x]) sep = join l sep ++ (sep ++ x) := by
  cases l with
  | nil => exact absurd rfl h
  | cons y r => rw [List.cons_append, join_cons, join_cons]; simp [joinTail]
/-- The first k elements joined. -/
def joinK (f : Nat → ByteArray) (sep : List UInt8) (k : Nat) : List UInt8 := join ((List.range k).map fun j => (f j).data.toList) sep
theorem joinK_zero (f : Nat → ByteArray) (sep : List UInt8) : joinK f sep 0 = [] := rfl
theorem joinK_one (f : Nat → ByteArray) (sep : List UInt8) : joinK f sep 1 = (f 0).data.toList := join_one _ _
theorem joinK_succ (f : Nat → ByteArray) (sep : List UInt8) (k : Nat) (h : 0 < k) : joinK f sep (k + 1) = joinK f sep k ++ (sep ++ (f k).data.toList) := by
  unfold joinK
  rw [List.range_succ, List.map_append]
  exact join_snoc _ _ _ (by intro e; have := congrArg List.length e; simp at this; omega)
theorem joinK_len (f : Nat → ByteArray) (sep : List UInt8) : ∀ k, (joinK f sep k).length ≤ k * sep.length + totS f k
  | 0 => by simp [joinK_zero]
  | 1 => by simp [joinK_one, totS]
  | k + 2 => by
    have := joinK_len f sep (k + 1)
    rw [joinK_succ f sep (k + 1) (by omega)]
    simp only [List.length_append, totS, Array.length_toList] at this ⊢
    have e : (k + 2) * sep.length = (k + 1) * sep.length + sep.length := by rw [show k + 2 = (k + 1) + 1 by omega, Nat.succ_mul]
    have e2 : (f (k + 1)).data.size = (f (k + 1)).size := rfl
    omega
theorem infoByte : (Try.prog.info? 5).map (fun i => (i.zero, i.size, i.bytes)) = some (some (.int .u8 0), 1, 1) := by kernel_rfl
/-- The cells of bytes. -/
abbrev bcells (l : List UInt8) : List Value := l.map fun c => Value.int .u8 (c.toNat : Int)
theorem push_all : ∀ (l : List UInt8) (acc : ByteArray), (l.map fun c => (c.toNat : Int)).foldl (fun r n => r.push (UInt8.ofNat n.toNat)) acc = ⟨acc.data ++ l.toArray⟩
  | [], acc => by simp
  | c :: l, acc => by
    simp only [List.map_cons, List.foldl_cons]
    rw [push_all l]
    have e : UInt8.ofNat ((c.toNat : Int)).toNat = c := by simp
    rw [e]
    apply ByteArray.ext
    show (acc.data.push c) ++ l.toArray = acc.data ++ (c :: l).toArray
    simp
theorem conv_own (l : List UInt8) (base g cap : Nat) (w : World) (h : w.ownsRow base 5 1 (.slice (some ⟨g, 0, none⟩) l.length cap) l.length (bcells l)) :
    (convert 28 9 (.slice (some ⟨g, 0, none⟩) l.length cap)).run Try.prog w = .ok (.string ⟨l.toArray⟩) w := by
  rw [run_convert_bytes_string _ _ _ 5 _ _ _ Try.underlying28 Try.underlying5 Try.underlying9]
  rw [run_bytesToString _ _ _ _ (l.map fun c => (c.toNat : Int)) ?_]
  · rw [push_all]
    congr 2
    apply ByteArray.ext
    show #[] ++ l.toArray = l.toArray
    simp
  · have := run_loadCells_list (P := Try.prog) (w := w) ⟨g, 0, none⟩ (bcells l) (h.cells (by rfl))
    simpa [bcells, Function.comp_def] using this
set_option maxRecDepth 100000 in
set_option maxHeartbeats 800000 in
theorem sjoin_any (b n cap : Nat) (f : Nat → ByteArray) (by_ : ByteArray) (w : World) (hr : StrRow w b n f) (hn : n ≤ 1048576) (ht : totS f n ≤ 1048576) (hs : by_.size ≤ 1048576) :
    Calls Try.prog 5 #[.slice (some ⟨b, 0, none⟩) n cap, .string by_] w fun e w' => e = .returned (.string ⟨(joinK f by_.data.toList n).toArray⟩) ∧ Below w.heap.size w w' := by
  obtain ⟨i0, hi, hz0, hz1, hz2⟩ := info_parts infoByte
  have hlt := hr.lt
  have Hr := Lib.hid hr
  have HJ := Lib.hid (joinK_len f by_.data.toList)
  have Ht := Lib.hid (fun j (h : j ≤ n) => Nat.le_trans (totS_le f h) ht)
  clear hr ht
  go_enter Try.func5, Try.ntmps5
  go_wp2_with fail
  go_loopw [5, 6] (fun v i wr => ∃ j : Nat, j ≤ n ∧ i = .int .i64 j ∧ wr.ownsRow w.heap.size 5 1 v (joinK f by_.data.toList j).length (bcells (joinK f by_.data.toList j)) ∧ ¬ v = .slice none 0 0 ∧ Below w.heap.size w wr) (fun _ i _ => n - (intOf i).toNat)
  case atStart => exact ⟨0, Nat.zero_le _, rfl, World.ownsRow_lit _ #[] 0 (Nat.le_refl _) (Nat.zero_le _) rfl, by simp, (Below.refl _ _).alloc (Nat.le_refl _) _⟩
  case round =>
    obtain ⟨j, hj, rfl, hown, hnn, hb⟩ := hrel
    have hbs := hb.size
    have hJ := HJ.out j
    have hT := Ht.out j hj
    have hm : j * by_.data.toList.length ≤ 1048576 * 1048576 := Nat.mul_le_mul (by omega) (by simpa using hs)
    have hrow := Hr.out.below hb hlt
    have Hrow := Lib.hid hrow
    have Hown := Lib.hid hown
    have Hnn := Lib.hid hnn
    have Hb := Lib.hid hb
    clear hrow hown hnn hb
    by_cases hlt2 : j < n
    · have hc := Hrow.out.cell hlt2
      have hT1 := Ht.out (j + 1) (by omega)
      have hT1' : totS f j + (f j).size ≤ 1048576 := hT1
      clear hT1
      by_cases h0 : j = 0
      · subst h0
        go_wp2_with (first | (at_builtin; refine wpList_append_own_string _ rfl (.tmp 19) (.tmp 23) 28 9 rfl w.heap.size 5 i0 Try.underlying28 Try.underlying9 hi hz0 hz1 hz2 _ _ _ rfl Hown.out (f 0) rfl ?p1 ?p2 ?p3 ?_))
        case p1 => unfold maxLen; omega
        case p2 => omega
        case p3 => omega
        intro v1 w1 hown1 hg1 hnil1
        have hb1 := Hb.out.grown hg1 hbs (fun q hq => (Hown.out.lt q hq).1)
        have hnn1 : ¬ v1 = .slice none 0 0 := fun e => Hnn.out (hnil1.1 e).1
        have e1 : bcells (joinK f by_.data.toList 0) ++ strCells (f 0) = bcells (joinK f by_.data.toList (0 + 1)) := by rw [joinK_zero, joinK_one]; rfl
        have e2 : (joinK f by_.data.toList 0).length + (f 0).size = (joinK f by_.data.toList (0 + 1)).length := by rw [joinK_zero, joinK_one]; simp
        rw [e1, e2] at hown1
        have Hown1 := Lib.hid hown1
        have Hb1 := Lib.hid hb1
        have Hnn1 := Lib.hid hnn1
        clear hown1 hg1 hnil1 hb1 hnn1 e1 e2
        go_wp2_with fail
        go_roundw
        case rel => exact ⟨0 + 1, by omega, by go_num, Hown1.out, Hnn1.out, Hb1.out⟩
        case measure => simp [intOf]; omega
      · go_wp2_with (first | (at_builtin; refine wpList_append_own_string _ rfl (.tmp 16) (.tmp 17) 28 9 rfl w.heap.size 5 i0 Try.underlying28 Try.underlying9 hi hz0 hz1 hz2 _ _ _ rfl Hown.out by_ rfl ?q1 ?q2 ?q3 ?_))
        case q1 => unfold maxLen; omega
        case q2 => omega
        case q3 => omega
        intro v1 w1 hown1 hg1 hnil1
        have hb1 := Hb.out.grown hg1 hbs (fun q hq => (Hown.out.lt q hq).1)
        have hnn1 : ¬ v1 = .slice none 0 0 := fun e => Hnn.out (hnil1.1 e).1
        have hc1 := (Hr.out.below hb1 hlt).cell hlt2
        have hbs1 := hb1.size
        have Hown1 := Lib.hid hown1
        have Hb1 := Lib.hid hb1
        have Hnn1 := Lib.hid hnn1
        clear hown1 hg1 hnil1 hb1 hnn1 hc
        go_wp2_with (first | (at_builtin; refine wpList_append_own_string _ rfl (.tmp 19) (.tmp 23) 28 9 rfl w.heap.size 5 i0 Try.underlying28 Try.underlying9 hi hz0 hz1 hz2 _ _ _ rfl Hown1.out (f j) rfl ?r1 ?r2 ?r3 ?_))
        case r1 => unfold maxLen; omega
        case r2 => omega
        case r3 => omega
        intro v2 w2 hown2 hg2 hnil2
        have hb2 := Hb1.out.grown hg2 hbs1 (fun q hq => (Hown1.out.lt q hq).1)
        have hnn2 : ¬ v2 = .slice none 0 0 := fun e => Hnn1.out (hnil2.1 e).1
        have e1 : bcells (joinK f by_.data.toList j) ++ (strCells by_ ++ strCells (f j)) = bcells (joinK f by_.data.toList (j + 1)) := by rw [joinK_succ _ _ _ (by omega)]; simp [bcells, strCells]
        have e2 : (joinK f by_.data.toList j).length + by_.size + (f j).size = (joinK f by_.data.toList (j + 1)).length := by rw [joinK_succ _ _ _ (by omega)]; simp; omega
        rw [e1, e2] at hown2
        have Hown2 := Lib.hid hown2
        have Hb2 := Lib.hid hb2
        have Hnn2 := Lib.hid hnn2
        clear hown2 hg2 hnil2 hb2 hnn2 e1 e2
        go_wp2_with fail
        go_roundw
        case rel => exact ⟨j + 1, by omega, by go_num, Hown2.out, Hnn2.out, Hb2.out⟩
        case measure => simp [intOf]; omega
    · obtain rfl : j = n := by omega
      have hex : ∃ g cap, u5 = .slice (some ⟨g, 0, none⟩) (joinK f by_.data.toList j).length cap := by
        rcases Hown.out.2 with ⟨h, _⟩ | ⟨g, cap, cur, hv, _⟩
        · exact absurd h Hnn.out
        · exact ⟨g, cap, hv⟩
      obtain ⟨g, cp, hv⟩ := hex
      have hown2 := Hown.out
      rw [hv] at hown2
      have hconv := conv_own _ _ _ _ _ hown2
      clear hown2
      rw [hv]
      go_wp2_with fail
      go_ret
      exact ⟨rfl, Hb.out⟩
end Go.Proofs.Ytlbgkdkgembkkab
