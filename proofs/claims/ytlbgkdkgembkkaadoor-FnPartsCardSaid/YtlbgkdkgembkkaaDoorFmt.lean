/- spec.FormatInt writes the decimal numeral. -/
import Derived.Test.YtlbgkdkgembkkaaDoorRows
import Derived.Test.YtlbgkdkgembkkaaDoorNum
import Derived.WalkKit
import Derived.WalkSpells
import Derived.WalkLawsBesides
import Derived.Lib.Hide
namespace Go.Proofs.YtlbgkdkgembkkaaDoor
open Go.RowKit
theorem conv_one (x : UInt8) (v : Int) (hv : v = (x.toNat : Int)) (w : World) : (convert 22 9 (.slice (some ⟨w.heap.size, 0, none⟩) 1 1)).run Tryd.prog (w.alloc (.cells #[.int .u8 v] 5)) = .ok (.string ⟨#[x]⟩) (w.alloc (.cells #[.int .u8 v] 5)) := by
  rw [run_convert_bytes_string _ _ _ 5 _ _ _ Tryd.underlying22 Tryd.underlying5 Tryd.underlying9]
  rw [run_bytesToString _ _ _ _ [v] ?_]
  · subst hv
    simp [ByteArray.empty, ByteArray.push, ByteArray.emptyWithCapacity]
    rfl
  · have := run_loadCells_list (P := Tryd.prog) (w := w.alloc (.cells #[.int .u8 v] 5)) ⟨w.heap.size, 0, none⟩ [.int .u8 v] (fun j u hj => by
      match j, hj with
      | 0, hj => simp at hj; subst hj; simp [Addr.add])
    simpa using this
theorem app_one (x : UInt8) (l : List UInt8) : (ByteArray.mk #[x] ++ ByteArray.mk l.toArray) = ByteArray.mk (x :: l).toArray := ByteArray.mk_append_mk [x] l
set_option maxRecDepth 100000 in
set_option maxHeartbeats 400000 in
theorem fmt_pos (n : Int) (w : World) (h0 : 0 < n) (h1 : n ≤ 9223372036854775807) :
    Calls Tryd.prog 20 #[.int .i64 n] w fun e w' => e = .returned (.string ⟨(Lib.itoa n).toArray⟩) ∧ Below w.heap.size w w' := by
  have hz : (n == 0) = false := by simp; omega
  have hlt : decide (n < 0) = false := by simp; omega
  have Hi := Lib.hid (show digs n.toNat = Lib.itoa n by rw [digs_pos (by omega), Lib.itoa, if_neg (by omega)])
  have hD : (digs n.toNat).length ≤ 9223372036854775807 := by have := digs_length n.toNat; omega
  go_enter Tryd.func20, Tryd.ntmps20
  go_wp2
  go_loopw [0, 4] (fun m out wr => ∃ (u : Nat) (l : List UInt8), m = .int .i64 u ∧ out = .string ⟨l.toArray⟩ ∧ u ≤ n ∧ digs u ++ l = digs n.toNat ∧ Below w.heap.size w wr) (fun m _ _ => (intOf m).toNat)
  case atStart => exact ⟨n.toNat, [], by rw [show ((n.toNat : Nat) : Int) = n by omega], rfl, by omega, by simp, Below.refl _ _⟩
  case round =>
    obtain ⟨u, l, rfl, rfl, hu, hl, hb⟩ := hrel
    by_cases hu0 : u = 0
    · subst hu0
      go_wp2
      go_ret
      exact ⟨by rw [← Hi.out, ← hl, digs_zero]; rfl, hb⟩
    · have hm : ((u : Int) != 0) = true := by simp; omega
      have hs := congrArg List.length (digs_step hu0)
      have hll := congrArg List.length hl
      simp only [List.length_append, List.length_cons, List.length_nil] at hs hll
      have hsz : 1 + l.length ≤ 9223372036854775807 := by omega
      have Hl := Lib.hid hl
      obtain ⟨x, hx⟩ : ∃ x : UInt8, x = UInt8.ofNat (48 + u % 10) := ⟨_, rfl⟩
      have hc := conv_one x (48 + (u : Int) % 10) (by rw [hx]; simp; omega) wr
      have Hx := Lib.hid hx
      clear hs hll hl hD hx
      go_wp2
      go_roundw
      case rel => exact ⟨u / 10, x :: l, by go_num, by rw [app_one], by omega, by rw [Hx.out, digs_next hu0]; exact Hl.out, hb.alloc (by have := hb.size; omega) _⟩
      case measure => simp [intOf]; omega
set_option maxRecDepth 100000 in
set_option maxHeartbeats 400000 in
theorem fmt_neg (n : Int) (w : World) (h0 : n < 0) (h1 : -9223372036854775808 ≤ n) :
    Calls Tryd.prog 20 #[.int .i64 n] w fun e w' => e = .returned (.string ⟨(Lib.itoa n).toArray⟩) ∧ Below w.heap.size w w' := by
  have hz : (n == 0) = false := by simp; omega
  have hlt : decide (n < 0) = true := by simp; omega
  have Hi := Lib.hid (show 45 :: digs n.natAbs = Lib.itoa n by rw [digs_pos (by omega), Lib.itoa, if_pos (by omega)])
  have hD : (digs n.natAbs).length + 1 ≤ 9223372036854775807 := by have := digs_length' n.natAbs; omega
  go_enter Tryd.func20, Tryd.ntmps20
  go_wp2
  go_loopw [0, 4, 5] (fun m out _ wr => ∃ (u : Nat) (l : List UInt8), m = .int .i64 (-(u : Int)) ∧ out = .string ⟨l.toArray⟩ ∧ u ≤ -n ∧ digs u ++ l = digs n.natAbs ∧ Below w.heap.size w wr) (fun m _ _ _ => (intOf m).natAbs)
  case atStart => exact ⟨n.natAbs, [], by rw [show (-(n.natAbs : Nat) : Int) = n by omega], rfl, by omega, by simp, Below.refl _ _⟩
  case round =>
    obtain ⟨u, l, rfl, rfl, hu, hl, hb⟩ := hrel
    by_cases hu0 : u = 0
    · subst hu0
      have hll := congrArg List.length hl
      rw [digs_zero, List.nil_append] at hll hl
      have hsz : 1 + l.length ≤ 9223372036854775807 := by omega
      have Hl := Lib.hid hl
      clear hll hl hD
      go_wp2
      go_ret
      exact ⟨by rw [← Hi.out, ← Hl.out, ← app_one]; rfl, hb⟩
    · have hm : (-(u : Int) != 0) = true := by simp; omega
      have hs := congrArg List.length (digs_step hu0)
      have hll := congrArg List.length hl
      simp only [List.length_append, List.length_cons, List.length_nil] at hs hll
      have hsz : 1 + l.length ≤ 9223372036854775807 := by omega
      have Hl := Lib.hid hl
      obtain ⟨x, hx⟩ : ∃ x : UInt8, x = UInt8.ofNat (48 + u % 10) := ⟨_, rfl⟩
      have hc := conv_one x (48 + ((u % 10 : Nat) : Int)) (by rw [hx]; simp; omega) wr
      have Hx := Lib.hid hx
      have ht := neg_tmod u
      have hq := neg_tdiv u
      obtain ⟨r, hr⟩ : ∃ r, r = u % 10 := ⟨_, rfl⟩
      obtain ⟨q, hqq⟩ : ∃ q, q = u / 10 := ⟨_, rfl⟩
      rw [← hr] at ht hc
      rw [← hqq] at hq
      have hr10 : r < 10 := by omega
      have hqu : q < u := by omega
      have Hq := Lib.hid hqq
      have Hr := Lib.hid hr
      clear hs hll hl hD hx hr hqq
      by_cases hr0 : r = 0
      · subst hr0
        simp only [Int.natCast_zero, Int.neg_zero, Int.add_zero] at ht hc
        go_wp2
        go_roundw
        case rel => exact ⟨q, x :: l, by go_num, by rw [app_one], by omega, by rw [Hx.out, Hq.out, digs_next hu0]; exact Hl.out, hb.alloc (by have := hb.size; omega) _⟩
        case measure => simp [intOf]; omega
      · have hrn : decide (-(r : Int) < 0) = true := by simp; omega
        go_wp2
        go_roundw
        case rel => exact ⟨q, x :: l, by go_num, by rw [app_one], by omega, by rw [Hx.out, Hq.out, digs_next hu0]; exact Hl.out, hb.alloc (by have := hb.size; omega) _⟩
        case measure => simp [intOf]; omega
theorem fmt_zero (w : World) :
    Calls Tryd.prog 20 #[.int .i64 0] w fun e w' => e = .returned (.string ⟨(Lib.itoa 0).toArray⟩) ∧ Below w.heap.size w w' := by
  have H := Lib.hid (show Lib.itoa 0 = [48] by rw [Lib.itoa, if_neg (by omega), Lib.decDigits]; rfl)
  go_enter Tryd.func20, Tryd.ntmps20
  go_wp2
  go_ret
  exact ⟨by rw [H.out]; rfl, Below.refl _ _⟩
/-- spec.FormatInt at every int. -/
theorem fmt_any (n : Int) (w : World) (h0 : -9223372036854775808 ≤ n) (h1 : n ≤ 9223372036854775807) :
    Calls Tryd.prog 20 #[.int .i64 n] w fun e w' => e = .returned (.string ⟨(Lib.itoa n).toArray⟩) ∧ Below w.heap.size w w' := by
  rcases Int.lt_trichotomy n 0 with h | h | h
  · exact fmt_neg n w h h0
  · subst h; exact fmt_zero w
  · exact fmt_pos n w h h1
end Go.Proofs.YtlbgkdkgembkkaaDoor
