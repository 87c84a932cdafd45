/- BaseB20: several of our texts in one: ApKp CiS CiL CiT CpR CpN CiKa. -/
import Derived.Test.YtmpafidkpangeaaBaseB19
import Derived.Test.YtmpafidkpangeaaBaseB21
import Derived.Test.YtmpafidkpangeaaBaseB07
import Derived.Test.YtmpafidkpangeaaBaseB06
import Derived.Test.YtmpafidkpangeaaBaseB10
import Derived.Laws.StructEq
import Derived.Test.YtmpafidkpangeaaBaseB26
import Derived.Test.YtmpafidkpangeaaBaseB17
namespace Go.Proofs.Ytmpafidkpangeaa
open Go.RowKit
theorem set_same {o : List Dw} {k : Nat} (hk : k < o.length) : o.set k (o.getD k .zero) = o := by
  rw [List.getD_eq_getElem?_getD, List.getElem?_eq_getElem hk]
  exact List.set_getElem_self hk
theorem send_zero : ∀ {L : List (Nat × Dw)} {o : List Dw}, (∀ p ∈ L, p.1 < o.length ∧ p.2.ok) → (∀ y ∈ o, y.ok) → sendO .zero L o = some o
  | [], _, _, _ => rfl
  | p :: r, o, h, ho => by
    have hp := h p (List.mem_cons_self ..)
    have hm := dzero_mul hp.2
    have ha := dadd_zeroK (getD_ok ho p.1)
    rw [sendO, hm.1, hm.2, ha.1, ha.2, set_same hp.1]
    exact send_zero (fun q hq => h q (List.mem_cons_of_mem _ hq)) ho
theorem ap_step2 {G : Nat → List (Nat × Dw)} {l o : List Dw} {i : Nat} {x : Dw} (hx : l[i]? = some x) (hG : ∀ p ∈ G i, p.1 < o.length ∧ p.2.ok) (ho : ∀ y ∈ o, y.ok) :
    apO G i (l.drop i) o = match sendO x (G i) o with
      | some o' => apO G (i + 1) (l.drop (i + 1)) o'
      | none => none := by
  rw [ap_step hx]
  split
  · rename_i h
    rw [h, send_zero hG ho]
  · rfl
theorem goesG_ok (g : Gt) (i : Nat) : ∀ p ∈ goesG g i, p.2.ok := fun p hp => (goesL_e _ _ _ _ _ p hp).1
end Go.Proofs.Ytmpafidkpangeaa
namespace Go.Proofs.Ytmpafidkpangeaa
open Go.RowKit
def eqGB (x y : Gt) : Bool := x.k == y.k && (x.a == y.a && (x.b == y.b && x.c == y.c))
theorem eqGB_iff {x y : Gt} : eqGB x y = true ↔ x = y := by
  simp only [eqGB, Bool.and_eq_true, beq_iff_eq]
  exact ⟨fun ⟨h0, h1, h2, h3⟩ => by cases x; cases y; simp_all, fun h => by subst h; exact ⟨rfl, rfl, rfl, rfl⟩⟩
theorem eqGB_no {x y : Gt} (h : x ≠ y) : eqGB x y = false := by
  rw [Bool.eq_false_iff]; exact fun k => h (eqGB_iff.1 k)
instance : DecidableEq Gt := fun x y => if h : eqGB x y = true then .isTrue (eqGB_iff.1 h) else .isFalse fun k => h (eqGB_iff.2 k)
theorem ite4 (p q r s : Prop) [Decidable p] [Decidable q] [Decidable r] [Decidable s] (w : World) :
    (if p then if q then if r then if s then Result.ok (Value.bool true) w else Result.ok (Value.bool false) w else Result.ok (Value.bool false) w else Result.ok (Value.bool false) w else Result.ok (Value.bool false) w) =
    Result.ok (Value.bool (decide p && (decide q && (decide r && decide s)))) w := by
  by_cases p <;> by_cases q <;> by_cases r <;> by_cases s <;> simp [*]
set_option maxRecDepth 100000 in
set_option maxHeartbeats 1600000 in
theorem eqGv (x y : Gt) (w : World) : (binOp .eql 44 (.agg #[.int .i64 x.k, .int .i64 x.a, .int .i64 x.b, .int .i64 x.c]) (.agg #[.int .i64 y.k, .int .i64 y.a, .int .i64 y.b, .int .i64 y.c])).run Try.prog w = .ok (.bool (eqGB x y)) w := by
  rw [run_eql_struct, run_equalIn_struct _ 9999 _ _ _ (by kernel_rfl) (by kernel_rfl)]
  simp [go_sem]
  rw [ite4]
  rfl
set_option maxRecDepth 100000 in
set_option maxHeartbeats 1600000 in
theorem neGv (x y : Gt) (w : World) : (binOp .neq 44 (.agg #[.int .i64 x.k, .int .i64 x.a, .int .i64 x.b, .int .i64 x.c]) (.agg #[.int .i64 y.k, .int .i64 y.a, .int .i64 y.b, .int .i64 y.c])).run Try.prog w = .ok (.bool (!eqGB x y)) w := by
  rw [run_neq_struct]
  have h := eqGv x y w
  rw [run_eql_struct] at h
  generalize (Op.equalIn 10000 44 (.agg #[.int .i64 x.k, .int .i64 x.a, .int .i64 x.b, .int .i64 x.c]) (.agg #[.int .i64 y.k, .int .i64 y.a, .int .i64 y.b, .int .i64 y.c])).run Try.prog w = r at *
  cases r with
  | ok b w1 => simp only [Result.andThen_ok, Result.ok.injEq, Value.bool.injEq] at h ⊢; exact ⟨by rw [h.1], h.2⟩
  | halt a w1 => simp [Result.andThen] at h
theorem eqG_take {a b : List Gt} {j : Nat} {x y : Gt} (hx : a[j]? = some x) (hy : b[j]? = some y) (h : a.take j = b.take j) (hxy : x = y) : a.take (j + 1) = b.take (j + 1) := by
  rw [List.take_add_one, List.take_add_one, h, hx, hy, hxy]
attribute [local irreducible] World.cell?
set_option maxRecDepth 100000 in
set_option maxHeartbeats 1600000 in
theorem sgates (B C : Nat) (v u : Value) (a b : List Gt) (w : World) (hv : gtE.Sl w B v a) (hu : gtE.Sl w C u b) (hm : a.length ≤ 1048576) (_ : b.length ≤ 1048576) :
    Calls Try.prog 48 #[v, u] w fun e w' => e = .returned (.bool (decide (a = b))) ∧ Below w.heap.size w w' := by
  obtain ⟨p, cap, rfl, hcap, hr⟩ := hv
  obtain ⟨p', cap', rfl, hcap', hr'⟩ := hu
  have Hr := Lib.hid hr
  have Hr' := Lib.hid hr'
  clear hr hr'
  by_cases hl : a.length = b.length
  · obtain ⟨T, hT⟩ : ∃ T, T = decide (a = b) := ⟨_, rfl⟩
    rw [← hT]
    have HT := Lib.hid hT
    clear hT
    rw [← hl] at Hr' hcap' ⊢
    have Hl := Lib.hid hl
    clear hl
    have hd2 : ((a.length : Int) != a.length) = false := by simp
    go_enter Try.func48, Try.ntmps48
    go_wp2_with fail
    go_loopg [5] a.length (fun k i wr => ∃ j : Nat, k = a.length - j ∧ j ≤ a.length ∧ i = .int .i64 j ∧ Hid (a.take j = b.take j) ∧ Hid (Below w.heap.size w wr))
    case atStart => exact ⟨0, rfl, Nat.zero_le _, rfl, Lib.hid rfl, Below.refl _ _⟩
    case round =>
      obtain ⟨j, rfl, hj, rfl, Heq, Hb⟩ := hrel
      by_cases hlt : j < a.length
      · obtain ⟨g, rfl, _, hrow⟩ := Hr.out (by omega)
        obtain ⟨g', rfl, _, hrow'⟩ := Hr'.out (by omega)
        obtain ⟨x, hx⟩ : ∃ x, a[j]? = some x := ⟨a[j], List.getElem?_eq_getElem hlt⟩
        obtain ⟨y, hy⟩ : ∃ y, b[j]? = some y := ⟨b[j]'(by have := Hl.out; omega), List.getElem?_eq_getElem _⟩
        have r1 := hrow.below Hb.out hrow.lt
        have r2 := hrow'.below Hb.out hrow'.lt
        obtain ⟨c0, c1, c2, c3⟩ := GRow.cells r1 hx
        obtain ⟨d0, d1, d2, d3⟩ := GRow.cells r2 hy
        have hne := neGv x y
        have Hx := Lib.hid hx
        have Hy := Lib.hid hy
        clear hx hy hrow hrow' r1 r2
        go_upto_region 6 with fail
        by_cases hxy : x = y
        · rw [eqGB_iff.2 hxy] at hne
          have Hxy := Lib.hid hxy
          clear hxy
          go_quiet (fail)
          go_wp2_with fail
          go_roundg (a.length - (j + 1))
          case measure => omega
          case rel => exact ⟨j + 1, rfl, by omega, by go_num, Lib.hid (eqG_take Hx.out Hy.out Heq.out Hxy.out), below_dn Hb.out _⟩
        · rw [eqGB_no hxy] at hne
          have hF : a ≠ b := fun h => hxy (by have h1 := Hx.out; rw [h, Hy.out] at h1; injection h1 with h1; exact h1.symm)
          obtain rfl : T = false := HT.out.trans (decide_eq_false hF)
          clear hF hxy
          go_quiet (fail)
          go_wp2_with fail
          go_ret
          exact ⟨rfl, below_dn Hb.out _⟩
      · obtain rfl : j = a.length := by omega
        have hE := Heq.out
        rw [List.take_length, List.take_of_length_le (by rw [← Hl.out]; exact Nat.le_refl _)] at hE
        obtain rfl : T = true := HT.out.trans (decide_eq_true hE)
        go_wp2_with fail
        go_ret
        exact ⟨rfl, Hb.out⟩
  · rw [decide_eq_false (fun h => hl (by rw [h]))]
    have hd2 : ((a.length : Int) != b.length) = true := by simp; omega
    go_enter Try.func48, Try.ntmps48
    go_wp2_with fail
    go_ret
    exact ⟨rfl, Below.refl _ _⟩
theorem invL_len (L : List Gt) : (invL L).length = L.length := by simp [invL]
theorem invL_at {L : List Gt} {q : Nat} {x : Gt} (hx : L[q]? = some x) : (invL L)[L.length - (q + 1)]? = some (invG x) := by
  have hq : q < L.length := by
    rcases Nat.lt_or_ge q L.length with h' | h'
    · exact h'
    · rw [List.getElem?_eq_none h'] at hx; cases hx
  rw [invL, List.getElem?_reverse (by rw [List.length_map]; omega), List.getElem?_map, List.length_map, show L.length - 1 - (L.length - (q + 1)) = q by omega, hx]
  rfl
theorem invL_step {L : List Gt} {q : Nat} {x : Gt} (hx : L[q]? = some x) : gtE.flat ((invL L).take (L.length - (q + 1))) ++ gtE.fl (invG x) = gtE.flat ((invL L).take (L.length - q)) := by
  have hq : q < L.length := by
    rcases Nat.lt_or_ge q L.length with h' | h'
    · exact h'
    · rw [List.getElem?_eq_none h'] at hx; cases hx
  rw [gtE.flat_snoc, show L.length - q = (L.length - (q + 1)) + 1 by omega, List.take_add_one, invL_at hx]
  rfl
theorem infoG3 : (Try.prog.info? 44).map (fun i => (i.zero, i.size, i.bytes)) = some (some (.agg #[.int .i64 0, .int .i64 0, .int .i64 0, .int .i64 0]), 4, 32) := by kernel_rfl
set_option maxRecDepth 100000 in
set_option maxHeartbeats 3200000 in
theorem sinvL (B : Nat) (v : Value) (L : List Gt) (w : World) (hv : gtE.Sl w B v L) (hm : L.length ≤ 1048576) :
    Calls Try.prog 49 #[v] w fun e w' => ∃ r, e = .returned r ∧ gtE.Sl w' w.heap.size r (invL L) ∧ Below w.heap.size w w' := by
  obtain ⟨i0, hi, hz0, hz1, hz2⟩ := info_parts infoG3
  obtain ⟨a, cap, rfl, hcap, hr⟩ := hv
  have Hr := Lib.hid hr
  clear hr
  go_enter Try.func49, Try.ntmps49
  go_wp2_with fail
  go_loopg [3, 4] L.length (fun m out i wr => ∃ r : Nat, m = r ∧ r ≤ L.length ∧ i = .int .i64 ((r : Int) - 1) ∧ Hid (wr.ownsRow w.heap.size 44 4 out (L.length - r) (gtE.flat ((invL L).take (L.length - r)))) ∧ Hid (Below w.heap.size w wr))
  case atStart => exact ⟨L.length, rfl, Nat.le_refl _, rfl, Lib.hid (by rw [Nat.sub_self]; exact Enc.own_nil (E := gtE) (w := w) rfl), Lib.hid (by go_grown)⟩
  case round =>
    obtain ⟨r, hmr, hrl, hii, Hown, Hb⟩ := hrel
    have hs := Hb.out.size
    cases r with
    | zero =>
      subst hmr
      rw [show ((0 : Nat) : Int) - 1 = -1 from rfl] at hii
      subst hii
      have hown := Hown.out
      rw [Nat.sub_zero, List.take_of_length_le (by rw [invL_len]; exact Nat.le_refl _), ← invL_len L] at hown
      have Hout := Lib.hid (Enc.Sl.of_own (E := gtE) hown)
      clear hown
      go_wp2_with fail
      go_ret
      exact ⟨_, rfl, Hout.out, Hb.out⟩
    | succ q =>
      subst hmr
      rw [show ((q + 1 : Nat) : Int) - 1 = (q : Int) by simp] at hii
      subst hii
      obtain ⟨g, rfl, _, hrow⟩ := Hr.out (by omega)
      obtain ⟨x, hx⟩ : ∃ x, L[q]? = some x := ⟨L[q]'(by omega), List.getElem?_eq_getElem _⟩
      have r1 := hrow.below Hb.out hrow.lt
      obtain ⟨c0, c1, c2, c3⟩ := GRow.cells r1 hx
      have hgl := r1.lt
      have Hstep := Lib.hid (invL_step hx)
      have Hi := Lib.hid (fun W => sinvG x W)
      have Hnew := Lib.hid (fun W => Enc.new_row (E := gtE) W (invG x) #[.int .i64 (invG x).k, .int .i64 (invG x).a, .int .i64 (invG x).b, .int .i64 (invG x).c] rfl)
      generalize invG x = y at *
      clear hx r1 hrow
      go_wp2_with fail
      refine (Hi.out _).mono ?_
      rintro e w2 ⟨rfl, hb2⟩
      have Hown2 := Lib.hid (row_below Hown.out hb2)
      have Hb2 := Lib.hid (Hb.out.trans (hb2.mono hs))
      have hs2 := Hb2.out.size
      clear hb2 Hown Hb c0 c1 c2 c3
      go_wp2_with (first
        | (at_builtin; refine wpList_append_own _ rfl _ _ 24 rfl w.heap.size 44 i0 (.agg #[.int .i64 0, .int .i64 0, .int .i64 0, .int .i64 0]) 4 32 Try.underlying24 hi hz0 hz1 hz2 rfl (by decide) _ _ _ rfl (Hown2.out.alloc _) ⟨w2.heap.size, 0, none⟩ 1 1 (gtE.fl y) rfl rfl (Hnew.out w2) (gtE.one y) ?d3 ?d4 ?d5 ?_))
      case d3 => unfold maxLen; omega
      case d4 => omega
      case d5 => first | omega | (simp; omega)
      intro v' w4 hown' hgrow _
      have HB4 := Lib.hid ((Hb2.out.alloc hs2 (.cells #[.int .i64 y.k, .int .i64 y.a, .int .i64 y.b, .int .i64 y.c] 44)).grown hgrow (by simp; omega) (fun q hq => by have := (Hown2.out.lt q hq).1; omega))
      rw [Hstep.out, show L.length - (q + 1) + 1 = L.length - q by omega] at hown'
      have Hown4 := Lib.hid hown'
      clear hown' hgrow Hown2 Hb2
      go_wp2_with fail
      go_roundg q
      case measure => omega
      case rel => exact ⟨q, rfl, by omega, by go_num, Hown4, HB4⟩
end Go.Proofs.Ytmpafidkpangeaa
namespace Go.Proofs.Ytmpafidkpangeaa
open Go.RowKit
theorem marksG_at {k n j : Nat} (h : j < n) : (marksG k n)[j]? = some (mk4 (k + j * 4)) := by
  rw [marksG, List.getElem?_map, List.getElem?_range h]; rfl
theorem set2_at {w : World} {b : Nat} {z0 z1 u0 u1 : Value} {t : TypeId} (h : w.heap[b]? = some (.cells #[z0, z1] t (0, 0))) : ((w.setCell ⟨b, 0, none⟩ u0).setCell ⟨b, 1, none⟩ u1).heap[b]? = some (.cells #[u0, u1] t (0, 0)) := by
  have h1 := heap_set h 0 u0
  exact heap_set h1 1 u1
attribute [local irreducible] World.cell?
set_option maxRecDepth 100000 in
set_option maxHeartbeats 3200000 in
theorem heldGs (B k n : Nat) (v : Value) (w : World) (hv : gtE.Sl w B v (marksG k n)) (hm : n ≤ 1048576) (hk : k ≤ 1073741824) :
    Calls Try.prog 73 #[v, .int .i64 k] w fun e w' => e = .returned (.int .i64 ((k + n * 4 : Nat) : Int)) ∧ w = w' := by
  obtain ⟨a, cap, rfl, hcap, hr⟩ := hv
  rw [marksG_len] at hcap hr ⊢
  have Hr := Lib.hid hr
  clear hr
  go_enter Try.func73, Try.ntmps73
  go_wp2_with fail
  go_loopw [1, 5] (fun m i wr => ∃ j : Nat, j ≤ n ∧ m = .int .i64 ((k + j * 4 : Nat) : Int) ∧ i = .int .i64 j ∧ w = wr) (fun _ i _ => n - (intOf i).toNat)
  case atStart => exact ⟨0, Nat.zero_le _, by simp, rfl, rfl⟩
  case round =>
    obtain ⟨j, hj, rfl, rfl, rfl⟩ := hrel
    by_cases hlt : j < n
    · obtain ⟨g, rfl, hB, hrow⟩ := Hr.out (by omega)
      obtain ⟨c0, c1, c2, c3⟩ := GRow.cells hrow (marksG_at hlt)
      have m0 : (mk4 (k + j * 4)).k = (k : Int) + j * 4 := by simp [mk4]
      have m1 : (mk4 (k + j * 4)).a = (k : Int) + j * 4 + 1 := by simp [mk4]
      have m2 : (mk4 (k + j * 4)).b = (k : Int) + j * 4 + 1 + 1 := by simp [mk4]; omega
      have m3 : (mk4 (k + j * 4)).c = (k : Int) + j * 4 + 1 + 1 + 1 := by simp [mk4]; omega
      rw [m0] at c0; rw [m1] at c1; rw [m2] at c2; rw [m3] at c3
      clear m0 m1 m2 m3 hrow
      go_wp2_with fail
      go_roundw
      case rel => exact ⟨j + 1, by omega, by go_num, by go_num, trivial⟩
      case measure => simp [intOf]; omega
    · obtain rfl : j = n := by omega
      go_wp2_with fail
      go_ret
      exact ⟨rfl, rfl⟩
set_option maxRecDepth 100000 in
set_option maxHeartbeats 1600000 in
theorem szCi (n : Int) (a0 : Option Addr) (m cap : Nat) (l : Int) (w : World) (hm : m ≤ maxLen) (l0 : 0 ≤ l) (l1 : l ≤ 1048576) :
    Calls Try.prog 31 #[.agg #[.int .i64 n, .slice a0 m cap], .int .i64 l] w fun e w' => e = .returned (.int .i64 (if (m : Int) ≤ l then l - m else -1)) ∧ Below w.heap.size w w' := by
  have HX := Lib.hid (heap_alloc_new w (.cells #[.int .i64 n, .slice a0 m cap] 50))
  obtain ⟨c0, c1⟩ := blk_cells2 HX.out
  have hxl := lt_of_block HX.out
  by_cases h : (m : Int) ≤ l
  · rw [if_pos h]
    have H := Lib.hid (fun W => szGfit a0 m cap l W h l0 l1)
    have h0 : ¬ (l - (m : Int) < 0) := by omega
    go_enter Try.func31, Try.ntmps31
    go_wp2_with fail
    refine (H.out _).mono ?_
    rintro e w1 ⟨rfl, rfl⟩
    go_wp2_with fail
    go_ret
    exact ⟨rfl, by go_grown⟩
  · rw [if_neg h]
    have H := Lib.hid (fun W => szGbig a0 m cap l W hm h l0 l1)
    go_enter Try.func31, Try.ntmps31
    go_wp2_with fail
    refine (H.out _).mono ?_
    rintro e w1 ⟨rfl, rfl⟩
    go_wp2_with fail
    go_ret
    exact ⟨rfl, by go_grown⟩
theorem szCiFit (n : Int) (a0 : Option Addr) (m cap : Nat) (l : Int) (w : World) (h : (m : Int) ≤ l) (l0 : 0 ≤ l) (l1 : l ≤ 1048576) :
    Calls Try.prog 31 #[.agg #[.int .i64 n, .slice a0 m cap], .int .i64 l] w fun e w' => e = .returned (.int .i64 (l - m)) ∧ Below w.heap.size w w' := by
  have h2 := szCi n a0 m cap l w (by unfold maxLen; omega) l0 l1
  rwa [if_pos h] at h2
theorem szCiBig (n : Int) (a0 : Option Addr) (m cap : Nat) (l : Int) (w : World) (hn : m ≤ maxLen) (h : ¬ (m : Int) ≤ l) (l0 : 0 ≤ l) (l1 : l ≤ 1048576) :
    Calls Try.prog 31 #[.agg #[.int .i64 n, .slice a0 m cap], .int .i64 l] w fun e w' => e = .returned (.int .i64 (-1)) ∧ Below w.heap.size w w' := by
  have h2 := szCi n a0 m cap l w hn l0 l1
  rwa [if_neg h] at h2
set_option maxRecDepth 100000 in
set_option maxHeartbeats 3200000 in
theorem toCi (n : Int) (a0 : Option Addr) (cap B : Nat) (l : List Gt) (w : World) (hin : GsIn w B a0 l) (hB : B ≤ w.heap.size) (hn2 : l.length ≤ 1048576) :
    Calls Try.prog 32 #[.agg #[.int .i64 n, .slice a0 l.length cap]] w fun e w' => ∃ v, e = .returned (.agg #[.int .i64 n, v]) ∧ gtE.Sl w' w.heap.size v l ∧ Below w.heap.size w w' := by
  have H := Lib.hid (fun W (h : Below w.heap.size w W) => toGs a0 cap w.heap.size l W ((hin.mono hB).below h) h.size hn2)
  have HX := Lib.hid (alloc_blk (.cells #[.int .i64 0, .slice none 0 0] 26) (alloc_blk (.cells #[.int .i64 0, .slice none 0 0] 26) (heap_alloc_new w (.cells #[.int .i64 n, .slice a0 l.length cap] 50))))
  have HR := Lib.hid (show (((w.alloc (.cells #[.int .i64 n, .slice a0 l.length cap] 50)).alloc (.cells #[.int .i64 0, .slice none 0 0] 26)).alloc (.cells #[.int .i64 n, .slice none 0 0] 26)).heap[w.heap.size + 1]? = some (.cells #[.int .i64 0, .slice none 0 0] 26 (0, 0)) by
    have h := alloc_blk (.cells #[.int .i64 n, .slice none 0 0] 26) (heap_alloc_new (w.alloc (.cells #[.int .i64 n, .slice a0 l.length cap] 50)) (.cells #[.int .i64 0, .slice none 0 0] 26))
    simpa using h)
  have HO := Lib.hid (show (((w.alloc (.cells #[.int .i64 n, .slice a0 l.length cap] 50)).alloc (.cells #[.int .i64 0, .slice none 0 0] 26)).alloc (.cells #[.int .i64 n, .slice none 0 0] 26)).heap[w.heap.size + 2]? = some (.cells #[.int .i64 n, .slice none 0 0] 26 (0, 0)) by
    have h := heap_alloc_new ((w.alloc (.cells #[.int .i64 n, .slice a0 l.length cap] 50)).alloc (.cells #[.int .i64 0, .slice none 0 0] 26)) (.cells #[.int .i64 n, .slice none 0 0] 26)
    simpa using h)
  obtain ⟨c0, c1⟩ := blk_cells2 HX.out
  have hxl := lt_of_block HX.out
  clear hin
  go_enter Try.func32, Try.ntmps32
  go_wp2_with fail
  refine (H.out _ (by go_grown)).mono ?_
  rintro e w1 ⟨v, rfl, hd, hb1⟩
  have HR1 := Lib.hid (below_blk hb1 (lt_of_block HR.out) HR.out)
  have HO1 := Lib.hid (below_blk hb1 (lt_of_block HO.out) HO.out)
  have Hb1 := Lib.hid (show Below w.heap.size w w1 from below_up (by go_grown) hb1 (by simp; omega))
  have Hd := Lib.hid (hd.mono (show w.heap.size + 3 ≤ _ by simp))
  have hs1 := hb1.size
  simp at hs1
  obtain ⟨p, c, rfl, -, -⟩ := hd
  obtain ⟨o0, o1⟩ := blk_cells2 HO1.out
  obtain ⟨r0, r1⟩ := blk_cells2 HR1.out
  have hol := lt_of_block HO1.out
  have hrl := lt_of_block HR1.out
  have fO := fun o => free_at HO1.out o
  have fR := fun o => free_at HR1.out o
  clear c0 c1 hxl hb1 HX HR HO H
  go_wp2_with fail
  obtain ⟨k0, k1⟩ := blk_cells2 (set2_at (u0 := .int .i64 n) (u1 := .slice p l.length c) (set1_blk (g := w.heap.size + 1 + 1) (off := 1) (u := .slice p l.length c) (by omega) HR1.out))
  refine bodyPost_ret (v := .agg #[.int .i64 n, .slice p l.length c]) (by simp only [results, Try.results32]; simp [go_sem, k0, k1]) rfl ⟨_, rfl, ?_, ?_⟩
  · exact (sl_set1 (sl_set1 (sl_set1 Hd.out (by omega)) (by omega)) (by omega)).mono (by omega)
  · have := Hb1.out
    go_grown
set_option maxRecDepth 100000 in
set_option maxHeartbeats 3200000 in
theorem eqCi (B C : Nat) (n : Int) (v u : Value) (l : List Gt) (w : World) (hv : gtE.Sl w B v l) (hu : gtE.Sl w C u l) (hm : l.length ≤ 1048576) :
    Calls Try.prog 33 #[.agg #[.int .i64 n, v], .agg #[.int .i64 n, u]] w fun e w' => e = .returned (.bool true) ∧ Below w.heap.size w w' := by
  have H := Lib.hid (fun W (h1 : gtE.Sl W B v l) (h2 : gtE.Sl W C u l) => eqGs B C v u l W h1 h2 hm)
  have Hb0 := Lib.hid (show Below w.heap.size w ((w.alloc (.cells #[.int .i64 n, v] 26)).alloc (.cells #[.int .i64 n, u] 26)) by go_grown)
  have HX := Lib.hid (alloc_blk (.cells #[.int .i64 n, u] 26) (heap_alloc_new w (.cells #[.int .i64 n, v] 26)))
  have HY := Lib.hid (show ((w.alloc (.cells #[.int .i64 n, v] 26)).alloc (.cells #[.int .i64 n, u] 26)).heap[w.heap.size + 1]? = some (.cells #[.int .i64 n, u] 26 (0, 0)) by
    simpa using heap_alloc_new (w.alloc (.cells #[.int .i64 n, v] 26)) (.cells #[.int .i64 n, u] 26))
  have Hv := Lib.hid (hv.below Hb0.out)
  have Hu := Lib.hid (hu.below Hb0.out)
  obtain ⟨c0, c1⟩ := blk_cells2 HX.out
  obtain ⟨d0, d1⟩ := blk_cells2 HY.out
  have hxl := lt_of_block HX.out
  have hyl := lt_of_block HY.out
  have hnn : (n != n) = false := by simp
  obtain ⟨pa, ca, rfl, -, -⟩ := hv
  obtain ⟨pb, cb, rfl, -, -⟩ := hu
  go_enter Try.func33, Try.ntmps33
  go_wp2_with fail
  refine (H.out _ Hv.out Hu.out).mono ?_
  rintro e w1 ⟨rfl, hb1⟩
  have Hb1 := Lib.hid (below_nx Hb0.out hb1)
  clear hb1
  go_wp2_with fail
  go_ret
  exact ⟨rfl, Hb1.out⟩
theorem mid_alloc {B C : Nat} {w w1 : World} {o : Obj} (h : Mid B C (w.alloc o) w1) (hB : B ≤ w.heap.size) : Mid B C w w1 :=
  ⟨((Below.refl B w).alloc hB o).trans h.1, fun b hb hl => (h.2 b hb (by simp; omega)).trans (Below.heap_alloc _ _ _ hl)⟩
set_option maxRecDepth 100000 in
set_option maxHeartbeats 1600000 in
theorem markCi (B C k : Nat) (n : Int) (v : Value) (l : List Gt) (w : World) (hv : gtE.Sc w B C v l) (hB : B ≤ w.heap.size) (hm : l.length ≤ 1048576) (hk : k ≤ 1073741824) :
    Calls Try.prog 34 #[.agg #[.int .i64 n, v], .int .i64 k] w fun e w' => e = .returned (.int .i64 ((k + l.length * 4 : Nat) : Int)) ∧ gtE.Sc w' B C v (marksG k l.length) ∧ Mid B C w w' := by
  have HX := Lib.hid (heap_alloc_new w (.cells #[.int .i64 n, v] 26))
  have H := Lib.hid (markGs B C k v l _ (hv.below ((Below.refl _ _).alloc (Nat.le_refl _) (.cells #[.int .i64 n, v] 26))) hm hk)
  obtain ⟨c0, c1⟩ := blk_cells2 HX.out
  have hxl := lt_of_block HX.out
  obtain ⟨pa, ca, rfl, -, -⟩ := id hv
  go_enter Try.func34, Try.ntmps34
  go_wp2_with fail
  refine (H.out).mono ?_
  rintro e w1 ⟨rfl, hd, hM⟩
  have HM := Lib.hid (mid_alloc hM hB)
  have Hd := Lib.hid hd
  clear hM hd c0 c1
  go_wp2_with fail
  go_ret
  exact ⟨rfl, Hd.out, HM.out⟩
set_option maxRecDepth 100000 in
set_option maxHeartbeats 1600000 in
theorem heldCi (B k m : Nat) (n : Int) (v : Value) (w : World) (hv : gtE.Sl w B v (marksG k m)) (hm : m ≤ 1048576) (hk : k ≤ 1073741824) :
    Calls Try.prog 35 #[.agg #[.int .i64 n, v], .int .i64 k] w fun e w' => e = .returned (.int .i64 ((k + m * 4 : Nat) : Int)) ∧ Below w.heap.size w w' := by
  have HX := Lib.hid (heap_alloc_new w (.cells #[.int .i64 n, v] 26))
  have H := Lib.hid (heldGs B k m v _ (hv.below ((Below.refl _ _).alloc (Nat.le_refl _) (.cells #[.int .i64 n, v] 26))) hm hk)
  obtain ⟨c0, c1⟩ := blk_cells2 HX.out
  have hxl := lt_of_block HX.out
  obtain ⟨pa, ca, rfl, -, -⟩ := id hv
  have h0 : ¬ (((k + m * 4 : Nat) : Int) < 0) := by omega
  go_enter Try.func35, Try.ntmps35
  go_wp2_with fail
  refine (H.out).mono ?_
  rintro e w1 ⟨rfl, rfl⟩
  go_wp2_with fail
  go_ret
  exact ⟨rfl, by go_grown⟩
theorem markCi1 (B C : Nat) (n : Int) (v : Value) (l : List Gt) (w : World) (hv : gtE.Sc w B C v l) (hB : B ≤ w.heap.size) (hm : l.length ≤ 1048576) :
    Calls Try.prog 34 #[.agg #[.int .i64 n, v], .int .i64 1] w fun e w' => e = .returned (.int .i64 (1 + (l.length : Int) * 4)) ∧ gtE.Sc w' B C v (marksG 1 l.length) ∧ Mid B C w w' := by
  refine (markCi B C 1 n v l w hv hB hm (by omega)).mono ?_
  rintro e w1 ⟨rfl, h⟩
  exact ⟨by simp, h⟩
theorem heldCi1 (B m : Nat) (n : Int) (v : Value) (w : World) (hv : gtE.Sl w B v (marksG 1 m)) (hm : m ≤ 1048576) :
    Calls Try.prog 35 #[.agg #[.int .i64 n, v], .int .i64 1] w fun e w' => e = .returned (.int .i64 (1 + (m : Int) * 4)) ∧ Below w.heap.size w w' := by
  refine (heldCi B 1 m n v w hv hm (by omega)).mono ?_
  rintro e w1 ⟨rfl, h⟩
  exact ⟨by simp, h⟩
end Go.Proofs.Ytmpafidkpangeaa
namespace Go.Proofs.Ytmpafidkpangeaa
open Go.RowKit
attribute [local irreducible] World.cell?
set_option maxRecDepth 100000 in
set_option maxHeartbeats 3200000 in
theorem sequalC (B C : Nat) (n m : Int) (v u : Value) (a b : List Gt) (w : World) (hv : gtE.Sl w B v a) (hu : gtE.Sl w C u b) (hm : a.length ≤ 1048576) (hm' : b.length ≤ 1048576) :
    Calls Try.prog 14 #[.agg #[.int .i64 n, v], .agg #[.int .i64 m, u]] w fun e w' => e = .returned (.bool (decide (n = m) && decide (a = b))) ∧ Below w.heap.size w w' := by
  have H := Lib.hid (fun W (h1 : gtE.Sl W B v a) (h2 : gtE.Sl W C u b) => sgates B C v u a b W h1 h2 hm hm')
  have Hb0 := Lib.hid (show Below w.heap.size w ((w.alloc (.cells #[.int .i64 n, v] 26)).alloc (.cells #[.int .i64 m, u] 26)) by go_grown)
  have HX := Lib.hid (alloc_blk (.cells #[.int .i64 m, u] 26) (heap_alloc_new w (.cells #[.int .i64 n, v] 26)))
  have HY := Lib.hid (show ((w.alloc (.cells #[.int .i64 n, v] 26)).alloc (.cells #[.int .i64 m, u] 26)).heap[w.heap.size + 1]? = some (.cells #[.int .i64 m, u] 26 (0, 0)) by
    simpa using heap_alloc_new (w.alloc (.cells #[.int .i64 n, v] 26)) (.cells #[.int .i64 m, u] 26))
  have Hv := Lib.hid (hv.below Hb0.out)
  have Hu := Lib.hid (hu.below Hb0.out)
  obtain ⟨c0, c1⟩ := blk_cells2 HX.out
  obtain ⟨d0, d1⟩ := blk_cells2 HY.out
  have hxl := lt_of_block HX.out
  have hyl := lt_of_block HY.out
  obtain ⟨pa, ca, rfl, -, -⟩ := hv
  obtain ⟨pb, cb, rfl, -, -⟩ := hu
  by_cases h : n = m
  · subst h
    rw [decide_eq_true rfl, Bool.true_and]
    have hnn : (n == n) = true := by simp
    generalize decide (a = b) = T at *
    go_enter Try.func14, Try.ntmps14
    go_wp2_with fail
    refine (H.out _ Hv.out Hu.out).mono ?_
    rintro e w1 ⟨rfl, hb1⟩
    have Hb1 := Lib.hid (below_nx Hb0.out hb1)
    clear hb1
    go_wp2_with fail
    go_ret
    exact ⟨rfl, Hb1.out⟩
  · rw [decide_eq_false h, Bool.false_and]
    have hnn : (n == m) = false := by simpa using h
    clear h
    go_enter Try.func14, Try.ntmps14
    go_wp2_with fail
    go_ret
    exact ⟨rfl, Hb0.out⟩
end Go.Proofs.Ytmpafidkpangeaa
namespace Go.Proofs.Ytmpafidkpangeaa
/-- A gate with other qubits. -/
def movG (p : List Int) (g : Gt) : Gt := ⟨g.k, atI p g.a, if 1 < ar g.k then atI p g.b else 0, if 2 < ar g.k then atI p g.c else 0⟩
end Go.Proofs.Ytmpafidkpangeaa
namespace Go.Proofs.Ytmpafidkpangeaa
/-- The root's power below a gate's numerators. -/
def scK (k : Int) : Nat := if k = 4 then 1 else 0
end Go.Proofs.Ytmpafidkpangeaa
namespace Go.Proofs.Ytmpafidkpangeaa
open Go.RowKit
attribute [local irreducible] World.cell?
set_option maxRecDepth 100000 in
set_option maxHeartbeats 3200000 in
theorem islEqG (B C : Nat) (v u : Value) (a b : List Gt) (w : World) (hv : gtE.Sl w B v a) (hu : gtE.Sl w C u b) (hm : a.length ≤ 1048576) (_ : b.length ≤ 1048576) :
    Calls Try.prog 78 #[v, u] w fun e w' => e = .returned (.bool (decide (a = b))) ∧ Below w.heap.size w w' := by
  obtain ⟨p, cap, rfl, hcap, hr⟩ := hv
  obtain ⟨p', cap', rfl, hcap', hr'⟩ := hu
  have Hr := Lib.hid hr
  have Hr' := Lib.hid hr'
  clear hr hr'
  by_cases hl : a.length = b.length
  · have hd : ((a.length : Int) == b.length) = true := by simp; omega
    have hd2 : ((a.length : Int) != b.length) = false := by simp; omega
    obtain ⟨T, hT⟩ : ∃ T, T = decide (a = b) := ⟨_, rfl⟩
    rw [← hT]
    have HT := Lib.hid hT
    clear hT
    go_enter Try.func78, Try.ntmps78
    go_wp2_with fail
    go_loopw [13] (fun i wr => ∃ j : Nat, j ≤ a.length ∧ i = .int .i64 j ∧ Hid (a.take j = b.take j) ∧ Hid (Below w.heap.size w wr)) (fun i _ => a.length - (intOf i).toNat)
    case atStart => exact ⟨0, Nat.zero_le _, rfl, Lib.hid rfl, Below.refl _ _⟩
    case round =>
      obtain ⟨j, hj, rfl, Heq, Hb⟩ := hrel
      by_cases hlt : j < a.length
      · obtain ⟨g, rfl, _, hrow⟩ := Hr.out (by omega)
        obtain ⟨g', rfl, _, hrow'⟩ := Hr'.out (by omega)
        obtain ⟨x, hx⟩ : ∃ x, a[j]? = some x := ⟨a[j], List.getElem?_eq_getElem hlt⟩
        obtain ⟨y, hy⟩ : ∃ y, b[j]? = some y := ⟨b[j], List.getElem?_eq_getElem (by omega)⟩
        have r1 := hrow.below Hb.out hrow.lt
        have r2 := hrow'.below Hb.out hrow'.lt
        obtain ⟨c0, c1, c2, c3⟩ := GRow.cells r1 hx
        obtain ⟨d0, d1, d2, d3⟩ := GRow.cells r2 hy
        have hne := neGv x y
        have Hx := Lib.hid hx
        have Hy := Lib.hid hy
        clear hx hy r1 r2 hrow hrow'
        go_upto_region 6 with fail
        by_cases hxy : x = y
        · rw [eqGB_iff.2 hxy] at hne
          have Hxy := Lib.hid hxy
          clear hxy
          go_quiet (fail)
          go_wp2_with fail
          go_roundw
          case rel => exact ⟨j + 1, by omega, by go_num, Lib.hid (eqG_take Hx.out Hy.out Heq.out Hxy.out), below_dn Hb.out _⟩
          case measure => simp [intOf]; omega
        · rw [eqGB_no hxy] at hne
          have hF : a ≠ b := fun h => hxy (by have h1 := Hx.out; rw [h, Hy.out] at h1; injection h1 with h1; exact h1.symm)
          obtain rfl : T = false := HT.out.trans (decide_eq_false hF)
          clear hF hxy
          go_quiet (fail)
          go_wp2_with fail
          go_ret
          exact ⟨rfl, below_dn Hb.out _⟩
      · obtain rfl : j = a.length := by omega
        have hE := Heq.out
        rw [List.take_length, List.take_of_length_le (by omega)] at hE
        obtain rfl : T = true := HT.out.trans (decide_eq_true hE)
        go_wp2_with fail
        go_ret
        exact ⟨rfl, Hb.out⟩
  · have hd : ((a.length : Int) == b.length) = false := by simp; omega
    have hd2 : ((a.length : Int) != b.length) = true := by simp; omega
    rw [decide_eq_false (fun h => hl (by rw [h]))]
    go_enter Try.func78, Try.ntmps78
    go_wp2_with fail
    go_ret
    exact ⟨rfl, Below.refl _ _⟩
set_option maxRecDepth 100000 in
set_option maxHeartbeats 3200000 in
theorem iequalC (B C : Nat) (n m : Int) (v u : Value) (a b : List Gt) (w : World) (hv : gtE.Sl w B v a) (hu : gtE.Sl w C u b) (hm : a.length ≤ 1048576) (hm' : b.length ≤ 1048576) (_ : -9223372036854775808 ≤ n) (_ : n ≤ 9223372036854775807) :
    Calls Try.prog 41 #[.agg #[.int .i64 n, v], .agg #[.int .i64 m, u]] w fun e w' => e = .returned (.bool (decide (n = m) && decide (a = b))) ∧ Below w.heap.size w w' := by
  have H := Lib.hid (fun W (h1 : gtE.Sl W B v a) (h2 : gtE.Sl W C u b) => islEqG B C v u a b W h1 h2 hm hm')
  have Hb0 := Lib.hid (show Below w.heap.size w ((w.alloc (.cells #[.int .i64 n, v] 26)).alloc (.cells #[.int .i64 m, u] 26)) by go_grown)
  have HX := Lib.hid (alloc_blk (.cells #[.int .i64 m, u] 26) (heap_alloc_new w (.cells #[.int .i64 n, v] 26)))
  have HY := Lib.hid (show ((w.alloc (.cells #[.int .i64 n, v] 26)).alloc (.cells #[.int .i64 m, u] 26)).heap[w.heap.size + 1]? = some (.cells #[.int .i64 m, u] 26 (0, 0)) by
    simpa using heap_alloc_new (w.alloc (.cells #[.int .i64 n, v] 26)) (.cells #[.int .i64 m, u] 26))
  have Hv := Lib.hid (hv.below Hb0.out)
  have Hu := Lib.hid (hu.below Hb0.out)
  obtain ⟨c0, c1⟩ := blk_cells2 HX.out
  obtain ⟨d0, d1⟩ := blk_cells2 HY.out
  have hxl := lt_of_block HX.out
  have hyl := lt_of_block HY.out
  obtain ⟨pa, ca, rfl, -, -⟩ := hv
  obtain ⟨pb, cb, rfl, -, -⟩ := hu
  by_cases h : n = m
  · subst h
    rw [decide_eq_true rfl, Bool.true_and]
    have hnn : (n == n) = true := by simp
    generalize decide (a = b) = T at *
    go_enter Try.func41, Try.ntmps41
    go_wp2_with fail
    refine (H.out _ Hv.out Hu.out).mono ?_
    rintro e w1 ⟨rfl, hb1⟩
    have Hb1 := Lib.hid (below_nx Hb0.out hb1)
    clear hb1
    go_wp2_with fail
    go_ret
    exact ⟨rfl, Hb1.out⟩
  · rw [decide_eq_false h, Bool.false_and]
    have hnn : (n == m) = false := by simpa using h
    clear h
    go_enter Try.func41, Try.ntmps41
    go_wp2_with fail
    go_ret
    exact ⟨rfl, Hb0.out⟩
end Go.Proofs.Ytmpafidkpangeaa
