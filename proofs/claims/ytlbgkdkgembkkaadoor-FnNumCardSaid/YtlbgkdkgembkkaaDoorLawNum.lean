/- The law FnNum: FormatInt, ParseInt and ParseNumber are inverse to each other and accept no other string, at every code. Conditions: what the card ties (the library's tables and errors as its own text lays them). -/
import Derived.Test.YtlbgkdkgembkkaaDoorCards
import Derived.Test.YtlbgkdkgembkkaaDoorTie
import Derived.Test.YtlbgkdkgembkkaaDoorSpecParse
import Derived.Test.YtlbgkdkgembkkaaDoorParse
import Derived.Test.YtlbgkdkgembkkaaDoorLaid
import Derived.Test.YtlbgkdkgembkkaaDoorDraw1b
import Derived.WalkKit
import Derived.ProofKit
import Derived.OpenShut
import Derived.Deep.DeepHandedRow
import Derived.Lib.LaidTab
import Derived.LaidMore
import Derived.LaidHandle
import Derived.Stop.LaidErr
namespace Go.Proofs.YtlbgkdkgembkkaaDoor.fnNum
open Go.ChangeShapes Go.WideShapes Go.ChangeAt Go.RowKit Go.Lib
theorem lim_itoa {n : Int} (b0 : -9223372036854775808 ≤ n) (b1 : n ≤ 9223372036854775807) : (ByteArray.mk (itoa n).toArray).size ≤ 281474976710656 := by
  have := itoa_len n b0 b1
  simp [ByteArray.size]; omega
theorem inj {n m : Int} (h : itoa n = itoa m) (a0 : -9223372036854775808 ≤ n) (a1 : n ≤ 9223372036854775807) (b0 : -9223372036854775808 ≤ m) (b1 : m ≤ 9223372036854775807) : n = m := by
  have h1 := atoiAll_itoa n a0 a1
  rw [h, atoiAll_itoa m b0 b1] at h1
  injection h1 with h1
  exact h1.symm
/-- A text that is a numeral from 0 to 999999, or none. -/
def IsNum (l : List UInt8) (b : Bool) (x : Int) : Prop := (b = true ∧ 0 ≤ x ∧ x ≤ 999999 ∧ itoa x = l) ∨ (b = false ∧ x = 0 ∧ ∀ n : Int, 0 ≤ n → n ≤ 999999 → itoa n ≠ l)
theorem isNum_ex (l : List UInt8) : ∃ b x, IsNum l b x := by
  by_cases h : ∃ n : Int, 0 ≤ n ∧ n ≤ 999999 ∧ itoa n = l
  · obtain ⟨n, a, b, c⟩ := h; exact ⟨true, n, Or.inl ⟨rfl, a, b, c⟩⟩
  · exact ⟨false, 0, Or.inr ⟨rfl, rfl, fun n a b c => h ⟨n, a, b, c⟩⟩⟩
theorem isNum_itoa (n : Int) (b0 : -9223372036854775808 ≤ n) (b1 : n ≤ 9223372036854775807) : (0 ≤ n ∧ n ≤ 999999 → IsNum (itoa n) true n) ∧ (n < 0 ∨ 999999 < n → IsNum (itoa n) false 0) :=
  ⟨fun h => Or.inl ⟨rfl, h.1, h.2, rfl⟩, fun h => Or.inr ⟨rfl, rfl, fun m a b e => by have := inj e (by omega) (by omega) b0 b1; omega⟩⟩
theorem pnum_any (l : List UInt8) (hl : l.length ≤ 21) (b : Bool) (x : Int) (h : IsNum l b x) (w : World) (hp : HasPow w) (he : HasErrs w) :
    Calls Tryd.prog 13 #[.string ⟨l.toArray⟩] w fun e w' => e = .returned (.tuple #[.int .i64 x, .bool b]) ∧ Below w.heap.size w w' := by
  rcases h with ⟨rfl, a0, a1, hx⟩ | ⟨rfl, rfl, hx⟩
  · exact pnum_yes _ x hx (by omega) (by omega) a0 a1 w hp
  · exact pnum_no _ (by simp [ByteArray.size]; omega) hx w hp he
theorem spn_any2 (l : List UInt8) (hl : l.length ≤ 21) (b : Bool) (x : Int) (h : IsNum l b x) (w : World) :
    Calls Tryd.prog 15 #[.string ⟨l.toArray⟩] w fun e w' => e = .returned (.tuple #[.int .i64 x, .bool b]) ∧ Below w.heap.size w w' := by
  rcases h with ⟨rfl, a0, a1, hx⟩ | ⟨rfl, rfl, hx⟩
  · exact spn_yes _ x (by simp [ByteArray.size]; omega) hx a0 a1 w
  · exact spn_no _ (by simp [ByteArray.size]; omega) hx w
/-- Likewise from -999999999999 to 999999999999. -/
def IsInt (n : Int) (b : Bool) (m : Int) : Prop := (b = true ∧ m = n ∧ -999999999999 ≤ n ∧ n ≤ 999999999999) ∨ (b = false ∧ m = 0 ∧ (n < -999999999999 ∨ 999999999999 < n))
theorem pint_any (n : Int) (b0 : -9223372036854775808 ≤ n) (b1 : n ≤ 9223372036854775807) (b : Bool) (m : Int) (h : IsInt n b m) (w : World) (hp : HasPow w) (he : HasErrs w) :
    Calls Tryd.prog 12 #[.string ⟨(itoa n).toArray⟩] w fun e w' => e = .returned (.tuple #[.int .i64 m, .bool b]) ∧ Below w.heap.size w w' := by
  rcases h with ⟨rfl, rfl, a0, a1⟩ | ⟨rfl, rfl, h⟩
  · exact pint_yes _ m rfl b0 b1 a0 a1 w hp
  · exact pint_no _ (lim_itoa b0 b1) (fun k k0 k1 e => by have := inj e (by omega) (by omega) b0 b1; omega) w hp he
theorem small_cases {n : Int} {b : Bool} {k : Int} (b0 : -9223372036854775808 ≤ n) (b1 : n ≤ 9223372036854775807) (h : IsNum (itoa n) b k) : (0 ≤ n ∧ n ≤ 999999 ∧ b = true ∧ k = n) ∨ (n < 0 ∧ b = false ∧ k = 0) ∨ (999999 < n ∧ b = false ∧ k = 0) := by
  rcases h with ⟨rfl, a0, a1, e⟩ | ⟨rfl, rfl, e⟩
  · have := inj e (by omega) (by omega) b0 b1
    subst this
    exact Or.inl ⟨a0, a1, rfl, rfl⟩
  · rcases (show n < 0 ∨ 999999 < n ∨ (0 ≤ n ∧ n ≤ 999999) by omega) with h | h | h
    · exact Or.inr (Or.inl ⟨h, rfl, rfl⟩)
    · exact Or.inr (Or.inr ⟨h, rfl, rfl⟩)
    · exact absurd rfl (e n h.1 h.2)
set_option maxRecDepth 100000 in
set_option maxHeartbeats 1600000 in
theorem core (a0 : Option Addr) (len cap : Nat) (hs : len ≤ 1048576) (w : World) (hcode : CodeAt w w.heap.size a0 len) (hp : HasPow w) (he : HasErrs w) :
    Calls Tryd.prog 3 #[.slice a0 len cap] w fun e w' => e = .returned (.bool true) ∧ Below w.heap.size w w' := by
  have Hc := Lib.hid hcode
  clear hcode
  go_enter Tryd.func3, Tryd.ntmps3
  go_wp2_with (go_at_call 9; go_in)
  refine (drawFormatInt_any a0 len cap _ Hc.out).mono ?_
  rintro e w1 ⟨⟨n, b0, b1, rfl⟩, hb1⟩
  go_wp2_with fail
  refine (ifmt_any n _ b0 b1 (hp.below hb1)).mono ?_
  rintro e w2 ⟨rfl, hb2⟩
  have hb12 := hb1.trans (hb2.mono hb1.size)
  obtain ⟨ok, m, hint⟩ : ∃ ok m, IsInt n ok m := by
    by_cases h : -999999999999 ≤ n ∧ n ≤ 999999999999
    · exact ⟨true, n, Or.inl ⟨rfl, rfl, h.1, h.2⟩⟩
    · exact ⟨false, 0, Or.inr ⟨rfl, rfl, by omega⟩⟩
  have Hint := Lib.hid hint
  clear hint
  go_wp2_with fail
  refine (pint_any n b0 b1 ok m Hint.out _ (hp.below hb12) (he.below hb12)).mono ?_
  rintro e w3 ⟨rfl, hb3⟩
  have hb13 := hb12.trans (hb3.mono hb12.size)
  obtain ⟨small, k, hnum⟩ := isNum_ex (itoa n)
  have Hnum := Lib.hid hnum
  clear hnum
  go_wp2_with fail
  refine (pnum_any (itoa n) (itoa_len n b0 b1) small k Hnum.out _ (hp.below hb13) (he.below hb13)).mono ?_
  rintro e w4 ⟨rfl, hb4⟩
  have hb14 := hb13.trans (hb4.mono hb13.size)
  go_wp2_with fail
  refine (drawParseNumber_any a0 len cap _ ((Hc.out.below hb14).mono hb14.size)).mono ?_
  rintro e w5 ⟨⟨t, ht, rfl⟩, hb5⟩
  have hb15 := hb14.trans (hb5.mono hb14.size)
  obtain ⟨right, x, htn⟩ := isNum_ex t
  have Htn := Lib.hid htn
  clear htn
  go_wp2_with fail
  refine (pnum_any t ht right x Htn.out _ (hp.below hb15) (he.below hb15)).mono ?_
  rintro e w6 ⟨rfl, hb6⟩
  have hb16 := hb15.trans (hb6.mono hb15.size)
  go_wp2_with fail
  refine (spn_any2 t ht right x Htn.out _).mono ?_
  rintro e w7 ⟨rfl, hb7⟩
  have hb17 := hb16.trans (hb7.mono hb16.size)
  clear hb1 hb2 hb12 hb3 hb13 hb4 hb14 hb5 hb15 hb6 hb16 hb7
  rcases (show (-999999999999 ≤ n ∧ n ≤ 999999999999 ∧ ok = true ∧ m = n) ∨ (n < -999999999999 ∧ ok = false ∧ m = 0) ∨ (999999999999 < n ∧ ok = false ∧ m = 0) by rcases Hint.out with ⟨a, b, c, d⟩ | ⟨a, b, c | c⟩ <;> simp [*]) with ⟨p0, p1, rfl, rfl⟩ | ⟨p0, rfl, rfl⟩ | ⟨p0, rfl, rfl⟩
  · rcases (show (0 ≤ m ∧ m ≤ 999999 ∧ small = true ∧ k = m) ∨ (m < 0 ∧ small = false ∧ k = 0) ∨ (999999 < m ∧ small = false ∧ k = 0) from small_cases b0 b1 Hnum.out) with ⟨q0, q1, rfl, rfl⟩ | ⟨q0, rfl, rfl⟩ | ⟨q0, rfl, rfl⟩
    · rcases Htn.out with ⟨rfl, r0, r1, hr⟩ | ⟨rfl, rfl, _⟩
      · have hrr : (itoa x == t) = true := by simpa using hr
        have Hr := Lib.hid hr
        clear hr
        go_wp2_with fail
        refine (ifmt_any x _ (by omega) (by omega) (hp.below hb17)).mono ?_
        rintro e w8 ⟨rfl, hb8⟩
        go_wp2_with fail
        go_ret
        exact ⟨rfl, hb17.trans (hb8.mono hb17.size)⟩
      · go_wp2_with fail
        go_ret
        exact ⟨rfl, hb17⟩
    · rcases Htn.out with ⟨rfl, r0, r1, hr⟩ | ⟨rfl, rfl, _⟩
      · have hrr : (itoa x == t) = true := by simpa using hr
        have Hr := Lib.hid hr
        clear hr
        go_wp2_with fail
        refine (ifmt_any x _ (by omega) (by omega) (hp.below hb17)).mono ?_
        rintro e w8 ⟨rfl, hb8⟩
        go_wp2_with fail
        go_ret
        exact ⟨rfl, hb17.trans (hb8.mono hb17.size)⟩
      · go_wp2_with fail
        go_ret
        exact ⟨rfl, hb17⟩
    · have hd1 : decide (m ≤ 999999) = false := by simp; omega
      rcases Htn.out with ⟨rfl, r0, r1, hr⟩ | ⟨rfl, rfl, _⟩
      · have hrr : (itoa x == t) = true := by simpa using hr
        have Hr := Lib.hid hr
        clear hr
        go_wp2_with fail
        refine (ifmt_any x _ (by omega) (by omega) (hp.below hb17)).mono ?_
        rintro e w8 ⟨rfl, hb8⟩
        go_wp2_with fail
        go_ret
        exact ⟨rfl, hb17.trans (hb8.mono hb17.size)⟩
      · go_wp2_with fail
        go_ret
        exact ⟨rfl, hb17⟩
  · obtain ⟨rfl, rfl⟩ : small = false ∧ k = 0 := by rcases small_cases b0 b1 Hnum.out with ⟨q0, q1, _, _⟩ | ⟨_, q1, q2⟩ | ⟨_, q1, q2⟩ <;> first | exact ⟨q1, q2⟩ | omega
    rcases Htn.out with ⟨rfl, r0, r1, hr⟩ | ⟨rfl, rfl, _⟩
    · have hrr : (itoa x == t) = true := by simpa using hr
      have Hr := Lib.hid hr
      clear hr
      go_wp2_with fail
      refine (ifmt_any x _ (by omega) (by omega) (hp.below hb17)).mono ?_
      rintro e w8 ⟨rfl, hb8⟩
      go_wp2_with fail
      go_ret
      exact ⟨rfl, hb17.trans (hb8.mono hb17.size)⟩
    · go_wp2_with fail
      go_ret
      exact ⟨rfl, hb17⟩
  · obtain ⟨rfl, rfl⟩ : small = false ∧ k = 0 := by rcases small_cases b0 b1 Hnum.out with ⟨q0, q1, _, _⟩ | ⟨_, q1, q2⟩ | ⟨_, q1, q2⟩ <;> first | exact ⟨q1, q2⟩ | omega
    have hd1 : decide (n ≤ 999999) = false := by simp; omega
    have hd2 : decide (n ≤ 999999999999) = false := by simp; omega
    rcases Htn.out with ⟨rfl, r0, r1, hr⟩ | ⟨rfl, rfl, _⟩
    · have hrr : (itoa x == t) = true := by simpa using hr
      have Hr := Lib.hid hr
      clear hr
      go_wp2_with fail
      refine (ifmt_any x _ (by omega) (by omega) (hp.below hb17)).mono ?_
      rintro e w8 ⟨rfl, hb8⟩
      go_wp2_with fail
      go_ret
      exact ⟨rfl, hb17.trans (hb8.mono hb17.size)⟩
    · go_wp2_with fail
      go_ret
      exact ⟨rfl, hb17⟩
set_option maxRecDepth 100000 in
set_option maxHeartbeats 400000 in
theorem walk (a0 : Option Addr) (len cap : Nat) (w : World) (hm : len ≤ maxLen) (hc : len ≤ 1048576 → CodeAt w w.heap.size a0 len) (hl : HasPow w ∧ HasErrs w) :
    Calls Tryd.prog 3 #[.slice a0 len cap] w fun e w' => e = .returned (.bool true) ∧ Below w.heap.size w w' := by
  by_cases hs : len ≤ 1048576
  · exact core a0 len cap hs w (hc hs) hl.1 hl.2
  · unfold maxLen at hm
    clear hc hl
    go_enter Tryd.func3, Tryd.ntmps3
    go_wp2_with (go_at_call 9; go_in)
    go_ret
    exact ⟨rfl, Below.refl _ _⟩


open Go.ChangeMaps (open_string shut_string)
theorem laidOut : laidOutB Tryd.prog = true := by kernel_rfl
theorem own : ownKnob Tryd.prog.godebug = none := by kernel_rfl
set_option maxRecDepth 100000 in
/-- What the walk gives, for every argument and every world that holds the tables. -/
theorem contract (H : Type) (enc : TypeId × Value → H) (W : World) (base : Nat) (args : Array Value) (ds gs : List (DataW H)) (before : List MemPlace)
    (hval : ∀ (j : Nat) t v, Tryd.f3.params[j]? = some t → args[j]? = some v → Value.okWide Tryd.prog W .any base t v)
    (hW : DataW.Whole enc Tryd.prog Tryd.f3.params.toList Rows.fnNumSpec.vars false W args.toList ds gs before) (hL : laidMetH Tryd.prog Rows.fnNumRow.laid W) :
    Calls Tryd.prog 3 args W fun e W' => ∃ v, e = .returned v ∧ Rows.fnNumSpec.post enc Tryd.prog Tryd.f3 false true false false W args v W' := by
  have hW' := hW
  obtain ⟨p, q, hA0, hV, rfl, hfz, hnd⟩ := hW
  have hA : DataW.TrodAll enc Tryd.prog W 0 (fun _ => true) true Tryd.f3.params.toList args.toList ds p := hA0
  rw [Tryd.params3] at hA hval
  obtain ⟨v0, vs0, d0, ds0, p0, q0, hargs, rfl, rfl, h0, r0⟩ := trodAll_cons hA
  obtain ⟨rfl, rfl, rfl⟩ := trodAll_nil r0
  obtain rfl : args = #[v0] := by cases args; simp_all
  obtain ⟨rfl, rfl⟩ := trodVars_none hV
  obtain ⟨ca, cl, cc, rfl⟩ := okWide_slice Tryd.underlying22 (hval 0 22 v0 rfl rfl)
  have k0 := h0
  have lt0 : ∀ x ∈ p0, x.block < W.heap.size := by obtain ⟨m, hm⟩ := k0; exact DataW.trod_lt m _ _ _ hm
  have ch : cl ≤ 1048576 → CodeAt W W.heap.size ca cl := by
    obtain ⟨fuel, hf⟩ := h0
    rcases open_ints Tryd.underlying22 Tryd.underlying5 (by kernel_rfl) hf with ⟨hcs, _⟩ | ⟨x, l, c, zs, hcs, _, hl, hm, hz, _, hcell, hwz⟩
    · simp [Value.cells] at hcs
      obtain ⟨rfl, rfl, rfl⟩ := hcs
      exact fun _ => ⟨by omega, fun h => absurd h (by omega)⟩
    · simp [Value.cells] at hcs
      obtain ⟨rfl, rfl, rfl⟩ := hcs
      have hz2 : zs.length = cc := by simpa using hz
      exact fun hs => code_of hs (by omega) hcell hwz
  have cm : cl ≤ maxLen := by
    obtain ⟨fuel, hf⟩ := h0
    rcases open_ints Tryd.underlying22 Tryd.underlying5 (by kernel_rfl) hf with ⟨hcs, _⟩ | ⟨x, l, c, zs, hcs, _, hl, hm, hz, _, hcell, hwz⟩
    · simp [Value.cells] at hcs
      obtain ⟨rfl, rfl, rfl⟩ := hcs
      exact Nat.zero_le _
    · simp [Value.cells] at hcs
      obtain ⟨rfl, rfl, rfl⟩ := hcs
      omega
  clear hA0
  simp only [List.append_nil] at hW'
  refine (walk ca cl cc W cm ch (laid5 hL)).mono fun e W' ⟨he, hg⟩ => ?_
  subst he
  exact ⟨_, rfl, _, _, _, [], _, [], hW', trodAll_mk1 (shut_bool Tryd.underlying4 _), (trodAll_cons_mk (Below.trod laidOut (by kernel_rfl) (of_decide_eq_true (by kernel_rfl)) k0 hg lt0) trodAll_mk0), rfl, hg.frame _, fun h => by cases h⟩

/-- A world for the witness: what the program's own start lays. -/
noncomputable def laidWorld (os : Os) : World := World.doorLaid Tryd.prog 72 os
theorem laid_met (os : Os) : laidMetH Tryd.prog Rows.fnNumRow.laid ((laidWorld os).forCall (fun _ _ => 0) ⟨#[], #[.slice none 0 0], []⟩).memory :=
  laidMetH_of_parts3 (fuel := 8) (laidMet_of_run' 8 (by kernel_rfl) (by kernel_rfl)) (by kernel_rfl) (by kernel_rfl)
theorem reads (os : Os) {H : Type} (enc : TypeId × Value → H) : ∃ places, DataW.whole enc Tryd.prog ((laidWorld os).forCall (fun _ _ => 0) ⟨#[], #[.slice none 0 0], []⟩).memory Tryd.f3.params.toList Rows.fnNumSpec.vars false #[Value.slice none 0 0].toList 8 = some ([.nil], [], places) :=
  ⟨[], by kernel_rfl⟩
set_option maxRecDepth 100000 in
theorem lifted (os : Os) (started : os.Started) (H : Type) (enc : TypeId × Value → H) (F : Stop.Interp) :
    ReturnsInHanded {} Tryd.checked os 3 .any ((OpenSpec.ofChange Rows.fnNumSpec).preRow enc Tryd.prog Tryd.f3 Rows.fnNumRow.domain false Rows.fnNumRow.laid) (((OpenSpec.ofChange Rows.fnNumSpec).at F).post enc Tryd.prog Tryd.f3 false true false false) := by
  obtain ⟨places, hx⟩ := reads os enc
  refine returnsInHanded_of_row (C := Tryd.checked) (s := OpenSpec.ofChange Rows.fnNumSpec) own started (by kernel_rfl) Tryd.func3
    (witness_row_at (enc := enc) (C := Tryd.checked) false (laidWorld os) #[.slice none 0 0] rfl (by kernel_rfl) (by kernel_rfl) (by kernel_rfl)
      (OpenSpec.preRow_of_cond 8 hx (by kernel_rfl) (fun k hk => by cases hk) (by kernel_rfl) (laid_met os))) ?_
  intro W base args ds gs before hval hW _ _ _ hL _ _
  exact contract H enc W base args ds gs before hval hW hL
theorem said : Rows.FnNumSaid :=
  OpenClaim.holds_of_cond 3 Tryd.f3 rfl rfl rfl rfl rfl rfl rfl ⟨rfl, rfl, rfl, rfl, rfl⟩ rfl rfl rfl rfl rfl (by kernel_rfl) Tryd.func3 (by kernel_rfl)
    (of_decide_eq_true (by kernel_rfl)) (by unfold Func.isWrapper; first | (rw [if_pos (by decide +kernel)]; kernel_rfl) | (rw [if_neg (by decide +kernel)]; exact ⟨rfl, rfl⟩))
    (fun os started H enc _ F => by rw [OpenClaim.pre_eq_preRow]; exact lifted os started H enc F)
theorem plain (f : FuncId) (fn : Func) (hf : Tryd.pinned.checked.prog.funcNamed "loop.example/g00506/laws.FnNum" = some f) (hfn : Tryd.pinned.checked.prog.funcs[f]? = some fn) :
    true = Tryd.pinned.checked.prog.looks [] ∧ ∀ (j : Nat) t, fn.params[j]? = some t → Tryd.pinned.checked.prog.wantsStandIn t = false := by
  obtain rfl : f = 3 := Option.some.inj ((show Tryd.prog.funcNamed "loop.example/g00506/laws.FnNum" = some 3 by kernel_rfl).symm.trans hf) |>.symm
  obtain rfl : fn = Tryd.f3 := (Option.some.inj (Tryd.func3.symm.trans hfn)).symm
  refine ⟨by kernel_rfl, fun j t ht => ?_⟩
  rw [Tryd.params3] at ht
  have hm : t ∈ [22] := by simpa using Array.mem_of_getElem? ht
  have hall : ([22].all fun u => !Tryd.prog.wantsStandIn u) = true := by kernel_rfl
  exact (show Tryd.prog.wantsStandIn t = false by simpa using List.all_eq_true.1 hall t hm)
theorem card : Rows.FnNumCardSaid :=
  Claim7.holds_tied_plain_at .later [] _ _ _ _ said (fun _ h => by cases h) (by kernel_rfl) (fun _ h => by cases h) fnNum_row_tie rfl ⟨rfl, rfl⟩ (by kernel_rfl) rfl plain (by kernel_rfl)
end Go.Proofs.YtlbgkdkgembkkaaDoor.fnNum
