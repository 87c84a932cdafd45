/- BaseC02: several of our texts in one: Was AdL CtD GtKd WasW CtX DcM CpM CtY ApKu ApKp GtK CmB CmC CiKy. -/
import Derived.Test.YtlmiebeffdcfhaaGreatApS
import Derived.Test.YtlmiebeffdcfhaaGreatBaseC05
import Derived.Test.YtlmiebeffdcfhaaGreatBaseB10
import Derived.Laws.AppendOwn
import Derived.Test.YtlmiebeffdcfhaaGreatBaseC06
import Derived.Test.YtlmiebeffdcfhaaGreatBaseC03
import Derived.Test.YtlmiebeffdcfhaaGreatBaseB15
import Derived.Test.YtlmiebeffdcfhaaGreatBaseB19
import Derived.Test.YtlmiebeffdcfhaaGreatApKt
import Derived.Test.YtlmiebeffdcfhaaGreatBaseB11
namespace Go.Proofs.YtlmiebeffdcfhaaGreat
open Go.RowKit
theorem wpList_append_sl {α : Type} {E : Enc α} {P : Program} {w : World} {ops : Array Oper} {rest : List Oper} {o : Oper} {a : Act} {Q : Exit → Act → World → Prop} (hgd : o.guard = none) (s x : Operand) (t : TypeId)
    (ho : o.op = .call { callee := .builtin .append, args := #[s, x], argTypes := #[t, t] })
    (base : Nat) (i : TypeInfo) (z : Value) (bytes : Nat) (ht : P.underlying t = some (.slice E.ty)) (hi : P.info? E.ty = some i) (hz : i.zero = some z)
    (hsize : i.size = E.n) (hby : i.bytes = bytes) (hzs : z.cells.size = E.n) (hsz : 0 < E.n)
    (v : Value) (n : Nat) (xs : List Value) (hs : a.eval s = v) (hown : w.ownsRow base E.ty E.n v n xs) (B : Nat) (X : Value) (M : List α) (hx : a.eval x = X) (hX : E.Sl w B X M)
    (h63 : n + M.length ≤ maxLen) (hbytes : (n + M.length) * bytes ≤ 140737488355328) (hbase : base ≤ w.heap.size)
    (h : ∀ v' w', w'.ownsRow base E.ty E.n v' (n + M.length) (xs ++ E.flat M) → w.grownBy w' v.ownBlock → (v'.ownBlock = v.ownBlock ∨ v'.ownBlock = some w.heap.size) → wpList P ops Q rest (a.put o.dst v') w') : wpList P ops Q (o :: rest) a w := by
  refine wpList_plain hgd fun _ hK => ?_
  obtain ⟨v', w', hr, h2, h3, h4⟩ := run_append_sl (P := P) w base t o.type i z bytes ht hi hz hsize hby hzs hsz v n xs hown B X M hX h63 hbytes hbase
  unfold Oper.wp execOp
  simp only [ho, resolve, invoke, builtin, Sem.run_bind, Sem.run_pure, Result.andThen_ok, List.map_toArray, List.map_cons, List.map_nil, hs, hx, hr]
  exact hK _ _ (h v' w' h2 h3 h4)
/-- A block that is no row of gates is not the one that a slice owns. -/
theorem own_other {w : World} {base : Nat} {v : Value} {k g : Nat} {xs : List Value} {o : Obj} (h : w.ownsRow base 25 4 v k xs) (ho : w.heap[g]? = some o) (hc : ∀ cs f, o ≠ Obj.cells cs 25 f) : some g ≠ v.ownBlock := fun e => by
  rcases h.2 with ⟨rfl, _⟩ | ⟨g', cap, cur, rfl, _, hgb, _⟩
  · cases e
  · obtain rfl : g = g' := by simpa [Value.ownBlock] using e
    rw [hgb] at ho; exact hc _ _ (Option.some.inj ho).symm
end Go.Proofs.YtlmiebeffdcfhaaGreat
namespace Go.Proofs.YtlmiebeffdcfhaaGreat
open Go.RowKit
attribute [local irreducible] World.cell?
set_option maxRecDepth 100000 in
set_option maxHeartbeats 3200000 in
theorem iaddL2 (C b : Nat) (v u : Value) (k : Nat) (xs : List Value) (M : List Gt) (w : World) (hb : w.heap[b]? = some (.cells #[v] 78 (0, 0))) (hown : w.ownsRow (b + 1) 25 4 v k xs) (hu : gtE.Sl w C u M) (hk : k + M.length ≤ 16777216) :
    Calls Tryz.prog 48 #[.pointer (some ⟨b, 0, none⟩), u] w fun e w' => e = .returned (.tuple #[]) ∧ (∃ v', w'.heap[b]? = some (.cells #[v'] 78 (0, 0)) ∧ w'.ownsRow (b + 1) 25 4 v' (k + M.length) (xs ++ gtE.flat M)) ∧ Below b w w' ∧ w.heap.size ≤ w'.heap.size ∧ (∀ (g : Nat) (o : Obj), w.heap[g]? = some o → g ≠ b → some g ≠ v.ownBlock → w'.heap[g]? = some o) := by
  obtain ⟨i0, hi, hz0, hz1, hz2⟩ := info_parts infoG3
  have c0 := cell_at hb 0 _ rfl
  have hbl := lt_of_block hb
  have fb := fun o => free_at hb o
  have Hb := Lib.hid hb
  have Hown := Lib.hid hown
  have Hu := Lib.hid hu
  obtain ⟨pa, ca, hpa, -, -⟩ := id hu
  clear hb hown hu
  subst hpa
  go_enter Tryz.func48, Tryz.ntmps48
  go_wp2_with (first
    | (at_builtin; refine wpList_append_sl (E := gtE) rfl _ _ 28 rfl (b + 1) i0 (.agg #[.int .i64 0, .int .i64 0, .int .i64 0, .int .i64 0]) 32 Tryz.underlying28 hi hz0 hz1 hz2 rfl (by decide) v k xs rfl Hown.out C _ M rfl Hu.out ?d3 ?d4 ?d5 ?_))
  case d3 => unfold maxLen; omega
  case d4 => omega
  case d5 => omega
  intro v' w4 hown' hgrow hat
  have hne : some b ≠ v.ownBlock := fun e => by have := (Hown.out.lt b e.symm).1; omega
  have hb4 := grown_blk hgrow Hb.out hne
  have hB4 : Below b w w4 := (Below.refl b w).grown hgrow (by omega) (fun q hq => by have := (Hown.out.lt q hq).1; omega)
  have hv' : ∀ k, v'.ownBlock = some k → k ≠ b := fun q hq e => by
    subst e
    rcases hat with h | h
    · exact hne (hq.symm.trans h)
    · have := Option.some.inj (hq.symm.trans h); omega
  have Hkeep := Lib.hid (show ∀ (g : Nat) (o : Obj), w.heap[g]? = some o → some g ≠ v.ownBlock → w4.heap[g]? = some o from fun g o ho hc => (hgrow.block g (lt_of_block ho) hc).trans ho)
  have hs4 := hgrow.size
  have Hown4 := Lib.hid hown'
  have HB4 := Lib.hid hB4
  have HO5 := Lib.hid (heap_set hb4 0 v')
  obtain ⟨pv, cv, hpv⟩ : ∃ p c, v' = .slice p (k + M.length) c := by
    rcases hown'.2 with ⟨rfl, h⟩ | ⟨g, cap, cur, rfl, _⟩
    · exact ⟨none, 0, by rw [h]⟩
    · exact ⟨_, _, rfl⟩
  clear c0 hown' hat hgrow hB4 hne fb
  have d0 := cell_at hb4 0 _ rfl
  have fb4 := fun o => free_at hb4 o
  have hbl4 := lt_of_block hb4
  clear hb4
  subst hpv
  go_wp2_with fail
  first | go_end0 | (refine bodyPost_ret (results_none rfl _ _ _) rfl ?_) | (refine bodyPost_end (results_none rfl _ _ _) rfl ?_)
  refine ⟨rfl, ⟨_, HO5.out, row_set1 Hown4.out hv'⟩, HB4.out.setCell (p := ⟨b, 0, none⟩) (Nat.le_refl _) _, ?_, fun g o ho h1 hc => set1_blk h1 (Hkeep.out g o ho hc)⟩
  simp [World.setCell]
  omega
theorem iaddL (C b : Nat) (v u : Value) (k : Nat) (xs : List Value) (M : List Gt) (w : World) (hb : w.heap[b]? = some (.cells #[v] 78 (0, 0))) (hown : w.ownsRow (b + 1) 25 4 v k xs) (hu : gtE.Sl w C u M) (hk : k + M.length ≤ 16777216) :
    Calls Tryz.prog 48 #[.pointer (some ⟨b, 0, none⟩), u] w fun e w' => e = .returned (.tuple #[]) ∧ (∃ v', w'.heap[b]? = some (.cells #[v'] 78 (0, 0)) ∧ w'.ownsRow (b + 1) 25 4 v' (k + M.length) (xs ++ gtE.flat M)) ∧ Below b w w' :=
  (iaddL2 C b v u k xs M w hb hown hu hk).mono fun _ _ h => ⟨h.1, h.2.1, h.2.2.1⟩
end Go.Proofs.YtlmiebeffdcfhaaGreat
namespace Go.Proofs.YtlmiebeffdcfhaaGreat
/-- ControlledGate's gates. -/
def ctL (q : Int) (g : Gt) : List Gt :=
  if g.k = 1 then [⟨9, q, g.a, 0⟩]
  else if g.k = 2 then [⟨6, g.a, 0, 0⟩, ⟨9, q, g.a, 0⟩, ⟨5, g.a, 0, 0⟩]
  else if g.k = 3 then [⟨10, q, g.a, 0⟩]
  else if g.k = 4 then [⟨6, g.a, 0, 0⟩, ⟨4, g.a, 0, 0⟩, ⟨8, g.a, 0, 0⟩, ⟨9, q, g.a, 0⟩, ⟨7, g.a, 0, 0⟩, ⟨4, g.a, 0, 0⟩, ⟨5, g.a, 0, 0⟩]
  else if g.k = 5 then [⟨7, q, 0, 0⟩, ⟨7, g.a, 0, 0⟩, ⟨9, q, g.a, 0⟩, ⟨8, g.a, 0, 0⟩, ⟨9, q, g.a, 0⟩]
  else if g.k = 6 then [⟨8, q, 0, 0⟩, ⟨8, g.a, 0, 0⟩, ⟨9, q, g.a, 0⟩, ⟨7, g.a, 0, 0⟩, ⟨9, q, g.a, 0⟩]
  else if g.k = 9 then [⟨12, q, g.a, g.b⟩]
  else if g.k = 10 then [⟨4, g.b, 0, 0⟩, ⟨12, q, g.a, g.b⟩, ⟨4, g.b, 0, 0⟩]
  else if g.k = 11 then [⟨9, g.b, g.a, 0⟩, ⟨12, q, g.a, g.b⟩, ⟨9, g.b, g.a, 0⟩]
  else []
/-- Which kinds can be controlled. -/
def ctK (k : Int) : Bool := decide ((1 ≤ k ∧ k ≤ 6) ∨ (9 ≤ k ∧ k ≤ 11))
/-- What ControlledGate takes. -/
def ctCan (q : Int) (g : Gt) : Prop := gtB g 4 = true ∧ (0 ≤ q ∧ q < 4) ∧ q ∉ gqs g ∧ ctK g.k = true
def ctLL (q : Int) (L : List Gt) : List Gt := L.flatMap (ctL q)
/-- ControlledMatrix's matrix. -/
def ctV (q : Nat) (M : List (List Dw)) : List (List Dw) := (List.range M.length).map fun k => (List.range M.length).map fun i => if bitN i q then (M.getD k []).getD i .zero else if i = k then oneD else .zero
/-- ControlledMatrix. -/
def ctMB (q : Int) (M : List (List Dw)) : Bool := mtB M && (decide (0 ≤ q ∧ q ≤ qc M.length - 1) && (List.range M.length).all fun i => (List.range M.length).all fun k => bitN i q.toNat == bitN k q.toNat || decide ((M.getD i []).getD k .zero = .zero))
def ctM (q : Int) (M : List (List Dw)) : List (List Dw) := if ctMB q M then ctV q.toNat M else []
/-- Whether ControlledGate takes it; what it answers; the same for lists. -/
def ctB (q : Int) (g : Gt) : Bool := gtB g 4 && (decide (0 ≤ q ∧ q < 4) && (!decide (q ∈ gqs g) && ctK g.k))
def ctR (q : Int) (g : Gt) : List Gt := if ctB q g then ctL q g else []
def ctBs (q : Int) (L : List Gt) : Bool := L.all (ctB q)
def ctRs (q : Int) (L : List Gt) : List Gt := if ctBs q L then ctLL q L else []
theorem ctB_iff {q : Int} {g : Gt} : ctB q g = true ↔ ctCan q g := by
  unfold ctB ctCan
  simp only [Bool.and_eq_true, decide_eq_true_eq, Bool.not_eq_true', decide_eq_false_iff_not]
theorem ctBs_iff {q : Int} {L : List Gt} : ctBs q L = true ↔ ∀ g ∈ L, ctCan q g := by
  unfold ctBs
  rw [List.all_eq_true]
  exact ⟨fun h g hg => ctB_iff.1 (h g hg), fun h g hg => ctB_iff.2 (h g hg)⟩
theorem ctL_len (q : Int) (g : Gt) : (ctL q g).length ≤ 7 := by
  unfold ctL
  (repeat' split) <;> simp
theorem ctR_len (q : Int) (g : Gt) : (ctR q g).length ≤ 7 := by
  unfold ctR
  split
  · exact ctL_len q g
  · simp
theorem ctLL_len (q : Int) : ∀ L : List Gt, (ctLL q L).length ≤ 7 * L.length
  | [] => Nat.le_refl _
  | g :: L => by
    have h1 := ctLL_len q L
    have h2 := ctL_len q g
    rw [show ctLL q (g :: L) = ctL q g ++ ctLL q L from rfl, List.length_append, List.length_cons]
    omega
theorem ctRs_len (q : Int) (L : List Gt) : (ctRs q L).length ≤ 7 * L.length := by
  unfold ctRs
  split
  · exact ctLL_len q L
  · simp
theorem ctLL_step {q : Int} {L : List Gt} {j : Nat} {x : Gt} (hx : L[j]? = some x) : ctLL q (L.take (j + 1)) = ctLL q (L.take j) ++ ctL q x := by
  unfold ctLL
  rw [List.take_add_one, hx, List.flatMap_append]
  simp
theorem ctLL_take (q : Int) (L : List Gt) (j : Nat) : (ctLL q (L.take j)).length ≤ 7 * L.length := by
  have h1 := ctLL_len q (L.take j)
  have h2 : (L.take j).length ≤ L.length := by rw [List.length_take]; omega
  omega
/-- Distinct qubits with one more. -/
theorem dq_snoc (l : List Int) (q n : Int) : dq (l ++ [q]) n = (dq l n && (decide (0 ≤ q ∧ q < n) && !decide (q ∈ l))) := by
  unfold dq
  rw [List.length_append, List.length_singleton, List.range_succ, List.all_append]
  congr 1
  · rw [Bool.eq_iff_iff, List.all_eq_true, List.all_eq_true]
    refine forall_congr' fun j => forall_congr' fun hj => ?_
    have hj := List.mem_range.1 hj
    unfold dqOk
    rw [List.getD_eq_getElem?_getD, List.getD_eq_getElem?_getD, List.getElem?_append_left hj, List.take_append_of_le_length (Nat.le_of_lt hj)]
  · simp only [List.all_cons, List.all_nil, Bool.and_true]
    unfold dqOk
    rw [List.getD_eq_getElem?_getD, List.getElem?_append_right (Nat.le_refl _), Nat.sub_self, List.take_append_of_le_length (Nat.le_refl _), List.take_length]
    rfl
theorem dq_gqs {g : Gt} (h : gtB g 4 = true) : dq (gqs g) 4 = true := by
  have hk := (gtB_parts h).2.1
  obtain ⟨k, a, b, c⟩ := g
  by_cases h1 : k ≤ 8
  · have e : ar k = 1 := if_pos ⟨hk.1, h1⟩
    rw [gtB_1 e (by decide)] at h
    simp only [Bool.and_eq_true] at h
    have e2 : gqs ⟨k, a, b, c⟩ = [a] := by unfold gqs; simp only [e]; rfl
    rw [e2]; exact h.2
  by_cases h2 : k ≤ 11
  · have e : ar k = 2 := by unfold ar; rw [if_neg (by omega), if_pos (by omega)]
    rw [gtB_2 e (by decide)] at h
    simp only [Bool.and_eq_true] at h
    have e2 : gqs ⟨k, a, b, c⟩ = [a, b] := by unfold gqs; simp only [e]; rfl
    rw [e2]; exact h.2
  · simp only at hk
    obtain rfl : k = 12 := by omega
    rw [gtB_3 (by decide) (by decide)] at h
    exact h
end Go.Proofs.YtlmiebeffdcfhaaGreat
namespace Go.Proofs.YtlmiebeffdcfhaaGreat
open Go.RowKit
attribute [local irreducible] World.cell?
set_option maxRecDepth 100000 in
set_option maxHeartbeats 800000 in
theorem ivalidG_no (g : Gt) (n : Int) (w : World) (h : ¬ (1 ≤ n ∧ n ≤ 4)) (n0 : -9223372036854775808 ≤ n) (n1 : n ≤ 9223372036854775807) :
    Calls Tryz.prog 26 #[(.agg #[.int .i64 g.k, .int .i64 g.a, .int .i64 g.b, .int .i64 g.c]), .int .i64 n] w fun e w' => e = .returned (.bool false) ∧ Below w.heap.size w w' := by
  have Ha := Lib.hid (fun w => iar0 g.k w)
  have Hq := Lib.hid (fun w => iisq_no n w h n0 n1)
  have Hb0 := Lib.hid (show Below w.heap.size w (w.alloc (.cells #[.int .i64 g.k, .int .i64 g.a, .int .i64 g.b, .int .i64 g.c] 25)) by go_grown)
  generalize ar g.k = t at *
  clear h n0 n1
  go_enter Tryz.func26, Tryz.ntmps26
  go_wp2_with fail
  refine (Ha.out _).mono ?_
  rintro e w1 ⟨rfl, rfl⟩
  go_wp2_with (first | (go_at_call 64; refine (Hq.out _).mono ?_; rintro e wR ⟨rfl, rfl⟩))
  go_ret
  exact ⟨rfl, Hb0.out⟩
set_option maxRecDepth 100000 in
set_option maxHeartbeats 800000 in
theorem ivalidG_zero (g : Gt) (n : Int) (w : World) (hn : 1 ≤ n ∧ n ≤ 4) (h : ar g.k = 0) :
    Calls Tryz.prog 26 #[(.agg #[.int .i64 g.k, .int .i64 g.a, .int .i64 g.b, .int .i64 g.c]), .int .i64 n] w fun e w' => e = .returned (.bool false) ∧ Below w.heap.size w w' := by
  have Ha := Lib.hid (fun w => iar0 g.k w)
  have Hq := Lib.hid (fun w => iisq_yes n w hn)
  have Hb0 := Lib.hid (show Below w.heap.size w (w.alloc (.cells #[.int .i64 g.k, .int .i64 g.a, .int .i64 g.b, .int .i64 g.c] 25)) by go_grown)
  rw [h] at Ha
  clear h hn
  go_enter Tryz.func26, Tryz.ntmps26
  go_wp2_with fail
  refine (Ha.out _).mono ?_
  rintro e w1 ⟨rfl, rfl⟩
  go_wp2_with (first | (go_at_call 64; refine (Hq.out _).mono ?_; rintro e wR ⟨rfl, rfl⟩))
  go_ret
  exact ⟨rfl, Hb0.out⟩
set_option maxRecDepth 100000 in
set_option maxHeartbeats 3200000 in
theorem ivalidG_10 (k a b c n : Int) (w : World) (hn : 1 ≤ n ∧ n ≤ 4) (h : ar k = 1) (hb : b ≠ 0) :
    Calls Tryz.prog 26 #[(.agg #[.int .i64 (Gt.mk k a b c).k, .int .i64 (Gt.mk k a b c).a, .int .i64 (Gt.mk k a b c).b, .int .i64 (Gt.mk k a b c).c]), .int .i64 n] w fun e w' => e = .returned (.bool false) ∧ Below w.heap.size w w' := by
  have Ha := Lib.hid (fun w => iar0 k w)
  have Hq := Lib.hid (fun w => iisq_yes n w hn)
  have HB := Lib.hid (show Below w.heap.size w ((w.alloc (.cells #[.int .i64 (Gt.mk k a b c).k, .int .i64 (Gt.mk k a b c).a, .int .i64 (Gt.mk k a b c).b, .int .i64 (Gt.mk k a b c).c] 25)).alloc (.cells #[.int .i64 a, .int .i64 b, .int .i64 c] 88)) by go_grown)
  have eb : (b != 0) = true := by simpa using hb
  rw [h] at Ha
  clear h hn hb
  go_enter Tryz.func26, Tryz.ntmps26
  go_wp2_with fail
  refine (Ha.out _).mono ?_
  rintro e w1 ⟨rfl, rfl⟩
  go_wp2_with (first | (go_at_call 64; refine (Hq.out _).mono ?_; rintro e wR ⟨rfl, rfl⟩))
  refine wp_loop_rounds 3 ?_
  repeat any_goals (rw [rounds_succ]; go_wp2_with fail)
  go_ret
  exact ⟨rfl, HB.out⟩
set_option maxRecDepth 100000 in
set_option maxHeartbeats 3200000 in
theorem ivalidG_11 (k a c n : Int) (w : World) (hn : 1 ≤ n ∧ n ≤ 4) (h : ar k = 1) (hc : c ≠ 0) :
    Calls Tryz.prog 26 #[(.agg #[.int .i64 (Gt.mk k a 0 c).k, .int .i64 (Gt.mk k a 0 c).a, .int .i64 (Gt.mk k a 0 c).b, .int .i64 (Gt.mk k a 0 c).c]), .int .i64 n] w fun e w' => e = .returned (.bool false) ∧ Below w.heap.size w w' := by
  have Ha := Lib.hid (fun w => iar0 k w)
  have Hq := Lib.hid (fun w => iisq_yes n w hn)
  have HB := Lib.hid (show Below w.heap.size w ((w.alloc (.cells #[.int .i64 (Gt.mk k a 0 c).k, .int .i64 (Gt.mk k a 0 c).a, .int .i64 (Gt.mk k a 0 c).b, .int .i64 (Gt.mk k a 0 c).c] 25)).alloc (.cells #[.int .i64 a, .int .i64 0, .int .i64 c] 88)) by go_grown)
  have ec : (c != 0) = true := by simpa using hc
  rw [h] at Ha
  clear h hn hc
  go_enter Tryz.func26, Tryz.ntmps26
  go_wp2_with fail
  refine (Ha.out _).mono ?_
  rintro e w1 ⟨rfl, rfl⟩
  go_wp2_with (first | (go_at_call 64; refine (Hq.out _).mono ?_; rintro e wR ⟨rfl, rfl⟩))
  refine wp_loop_rounds 3 ?_
  repeat any_goals (rw [rounds_succ]; go_wp2_with fail)
  go_ret
  exact ⟨rfl, HB.out⟩
set_option maxRecDepth 100000 in
set_option maxHeartbeats 3200000 in
theorem ivalidG_12 (k a n : Int) (w : World) (hn : 1 ≤ n ∧ n ≤ 4) (h : ar k = 1) :
    Calls Tryz.prog 26 #[(.agg #[.int .i64 (Gt.mk k a 0 0).k, .int .i64 (Gt.mk k a 0 0).a, .int .i64 (Gt.mk k a 0 0).b, .int .i64 (Gt.mk k a 0 0).c]), .int .i64 n] w fun e w' => e = .returned (.bool (dq [a] n)) ∧ Below w.heap.size w w' := by
  have Ha := Lib.hid (fun w => iar0 k w)
  have Hq := Lib.hid (fun w => iisq_yes n w hn)
  have HB := Lib.hid (show Below w.heap.size w ((w.alloc (.cells #[.int .i64 (Gt.mk k a 0 0).k, .int .i64 (Gt.mk k a 0 0).a, .int .i64 (Gt.mk k a 0 0).b, .int .i64 (Gt.mk k a 0 0).c] 25)).alloc (.cells #[.int .i64 a, .int .i64 0, .int .i64 0] 88)) by go_grown)
  have hrow : AR ((w.alloc (.cells #[.int .i64 (Gt.mk k a 0 0).k, .int .i64 (Gt.mk k a 0 0).a, .int .i64 (Gt.mk k a 0 0).b, .int .i64 (Gt.mk k a 0 0).c] 25)).alloc (.cells #[.int .i64 a, .int .i64 0, .int .i64 0] 88)) (w.heap.size + 1) [a] := by
    have h := heap_alloc_new (w.alloc (.cells #[.int .i64 (Gt.mk k a 0 0).k, .int .i64 (Gt.mk k a 0 0).a, .int .i64 (Gt.mk k a 0 0).b, .int .i64 (Gt.mk k a 0 0).c] 25)) (.cells #[.int .i64 a, .int .i64 0, .int .i64 0] 88)
    rw [show (w.alloc (.cells #[.int .i64 (Gt.mk k a 0 0).k, .int .i64 (Gt.mk k a 0 0).a, .int .i64 (Gt.mk k a 0 0).b, .int .i64 (Gt.mk k a 0 0).c] 25)).heap.size = w.heap.size + 1 by simp] at h
    exact ⟨_, _, h, rfl⟩
  have Hd := Lib.hid (idist (w.heap.size + 1) 3 [a] n _ hrow (by simp) (by simp))
  clear hrow
  generalize dq [a] n = D at *
  rw [h] at Ha
  clear h hn
  go_enter Tryz.func26, Tryz.ntmps26
  go_wp2_with fail
  refine (Ha.out _).mono ?_
  rintro e w1 ⟨rfl, rfl⟩
  go_wp2_with (first | (go_at_call 64; refine (Hq.out _).mono ?_; rintro e wR ⟨rfl, rfl⟩))
  refine wp_loop_rounds 3 ?_
  repeat any_goals (rw [rounds_succ]; go_wp2_with fail)
  refine (Hd.out).mono ?_
  rintro e w2 ⟨rfl, rfl⟩
  go_wp2_with fail
  go_ret
  exact ⟨rfl, HB.out⟩
set_option maxRecDepth 100000 in
set_option maxHeartbeats 3200000 in
theorem ivalidG_20 (k a b c n : Int) (w : World) (hn : 1 ≤ n ∧ n ≤ 4) (h : ar k = 2) (hc : c ≠ 0) :
    Calls Tryz.prog 26 #[(.agg #[.int .i64 (Gt.mk k a b c).k, .int .i64 (Gt.mk k a b c).a, .int .i64 (Gt.mk k a b c).b, .int .i64 (Gt.mk k a b c).c]), .int .i64 n] w fun e w' => e = .returned (.bool false) ∧ Below w.heap.size w w' := by
  have Ha := Lib.hid (fun w => iar0 k w)
  have Hq := Lib.hid (fun w => iisq_yes n w hn)
  have HB := Lib.hid (show Below w.heap.size w ((w.alloc (.cells #[.int .i64 (Gt.mk k a b c).k, .int .i64 (Gt.mk k a b c).a, .int .i64 (Gt.mk k a b c).b, .int .i64 (Gt.mk k a b c).c] 25)).alloc (.cells #[.int .i64 a, .int .i64 b, .int .i64 c] 88)) by go_grown)
  have ec : (c != 0) = true := by simpa using hc
  rw [h] at Ha
  clear h hn hc
  go_enter Tryz.func26, Tryz.ntmps26
  go_wp2_with fail
  refine (Ha.out _).mono ?_
  rintro e w1 ⟨rfl, rfl⟩
  go_wp2_with (first | (go_at_call 64; refine (Hq.out _).mono ?_; rintro e wR ⟨rfl, rfl⟩))
  refine wp_loop_rounds 3 ?_
  repeat any_goals (rw [rounds_succ]; go_wp2_with fail)
  go_ret
  exact ⟨rfl, HB.out⟩
set_option maxRecDepth 100000 in
set_option maxHeartbeats 3200000 in
theorem ivalidG_21 (k a b n : Int) (w : World) (hn : 1 ≤ n ∧ n ≤ 4) (h : ar k = 2) :
    Calls Tryz.prog 26 #[(.agg #[.int .i64 (Gt.mk k a b 0).k, .int .i64 (Gt.mk k a b 0).a, .int .i64 (Gt.mk k a b 0).b, .int .i64 (Gt.mk k a b 0).c]), .int .i64 n] w fun e w' => e = .returned (.bool (dq [a, b] n)) ∧ Below w.heap.size w w' := by
  have Ha := Lib.hid (fun w => iar0 k w)
  have Hq := Lib.hid (fun w => iisq_yes n w hn)
  have HB := Lib.hid (show Below w.heap.size w ((w.alloc (.cells #[.int .i64 (Gt.mk k a b 0).k, .int .i64 (Gt.mk k a b 0).a, .int .i64 (Gt.mk k a b 0).b, .int .i64 (Gt.mk k a b 0).c] 25)).alloc (.cells #[.int .i64 a, .int .i64 b, .int .i64 0] 88)) by go_grown)
  have hrow : AR ((w.alloc (.cells #[.int .i64 (Gt.mk k a b 0).k, .int .i64 (Gt.mk k a b 0).a, .int .i64 (Gt.mk k a b 0).b, .int .i64 (Gt.mk k a b 0).c] 25)).alloc (.cells #[.int .i64 a, .int .i64 b, .int .i64 0] 88)) (w.heap.size + 1) [a, b] := by
    have h := heap_alloc_new (w.alloc (.cells #[.int .i64 (Gt.mk k a b 0).k, .int .i64 (Gt.mk k a b 0).a, .int .i64 (Gt.mk k a b 0).b, .int .i64 (Gt.mk k a b 0).c] 25)) (.cells #[.int .i64 a, .int .i64 b, .int .i64 0] 88)
    rw [show (w.alloc (.cells #[.int .i64 (Gt.mk k a b 0).k, .int .i64 (Gt.mk k a b 0).a, .int .i64 (Gt.mk k a b 0).b, .int .i64 (Gt.mk k a b 0).c] 25)).heap.size = w.heap.size + 1 by simp] at h
    exact ⟨_, _, h, rfl⟩
  have Hd := Lib.hid (idist (w.heap.size + 1) 3 [a, b] n _ hrow (by simp) (by simp))
  clear hrow
  generalize dq [a, b] n = D at *
  rw [h] at Ha
  clear h hn
  go_enter Tryz.func26, Tryz.ntmps26
  go_wp2_with fail
  refine (Ha.out _).mono ?_
  rintro e w1 ⟨rfl, rfl⟩
  go_wp2_with (first | (go_at_call 64; refine (Hq.out _).mono ?_; rintro e wR ⟨rfl, rfl⟩))
  refine wp_loop_rounds 3 ?_
  repeat any_goals (rw [rounds_succ]; go_wp2_with fail)
  refine (Hd.out).mono ?_
  rintro e w2 ⟨rfl, rfl⟩
  go_wp2_with fail
  go_ret
  exact ⟨rfl, HB.out⟩
set_option maxRecDepth 100000 in
set_option maxHeartbeats 3200000 in
theorem ivalidG_30 (k a b c n : Int) (w : World) (hn : 1 ≤ n ∧ n ≤ 4) (h : ar k = 3) :
    Calls Tryz.prog 26 #[(.agg #[.int .i64 (Gt.mk k a b c).k, .int .i64 (Gt.mk k a b c).a, .int .i64 (Gt.mk k a b c).b, .int .i64 (Gt.mk k a b c).c]), .int .i64 n] w fun e w' => e = .returned (.bool (dq [a, b, c] n)) ∧ Below w.heap.size w w' := by
  have Ha := Lib.hid (fun w => iar0 k w)
  have Hq := Lib.hid (fun w => iisq_yes n w hn)
  have HB := Lib.hid (show Below w.heap.size w ((w.alloc (.cells #[.int .i64 (Gt.mk k a b c).k, .int .i64 (Gt.mk k a b c).a, .int .i64 (Gt.mk k a b c).b, .int .i64 (Gt.mk k a b c).c] 25)).alloc (.cells #[.int .i64 a, .int .i64 b, .int .i64 c] 88)) by go_grown)
  have hrow : AR ((w.alloc (.cells #[.int .i64 (Gt.mk k a b c).k, .int .i64 (Gt.mk k a b c).a, .int .i64 (Gt.mk k a b c).b, .int .i64 (Gt.mk k a b c).c] 25)).alloc (.cells #[.int .i64 a, .int .i64 b, .int .i64 c] 88)) (w.heap.size + 1) [a, b, c] := by
    have h := heap_alloc_new (w.alloc (.cells #[.int .i64 (Gt.mk k a b c).k, .int .i64 (Gt.mk k a b c).a, .int .i64 (Gt.mk k a b c).b, .int .i64 (Gt.mk k a b c).c] 25)) (.cells #[.int .i64 a, .int .i64 b, .int .i64 c] 88)
    rw [show (w.alloc (.cells #[.int .i64 (Gt.mk k a b c).k, .int .i64 (Gt.mk k a b c).a, .int .i64 (Gt.mk k a b c).b, .int .i64 (Gt.mk k a b c).c] 25)).heap.size = w.heap.size + 1 by simp] at h
    exact ⟨_, _, h, rfl⟩
  have Hd := Lib.hid (idist (w.heap.size + 1) 3 [a, b, c] n _ hrow (by simp) (by simp))
  clear hrow
  generalize dq [a, b, c] n = D at *
  rw [h] at Ha
  clear h hn
  go_enter Tryz.func26, Tryz.ntmps26
  go_wp2_with fail
  refine (Ha.out _).mono ?_
  rintro e w1 ⟨rfl, rfl⟩
  go_wp2_with (first | (go_at_call 64; refine (Hq.out _).mono ?_; rintro e wR ⟨rfl, rfl⟩))
  refine wp_loop_rounds 3 ?_
  repeat any_goals (rw [rounds_succ]; go_wp2_with fail)
  refine (Hd.out).mono ?_
  rintro e w2 ⟨rfl, rfl⟩
  go_wp2_with fail
  go_ret
  exact ⟨rfl, HB.out⟩
theorem ivalidG (g : Gt) (n : Int) (w : World) (n0 : -9223372036854775808 ≤ n) (n1 : n ≤ 9223372036854775807) : Calls Tryz.prog 26 #[(.agg #[.int .i64 g.k, .int .i64 g.a, .int .i64 g.b, .int .i64 g.c]), .int .i64 n] w fun e w' => e = .returned (.bool (gtB g n)) ∧ Below w.heap.size w w' := by
  by_cases hn : 1 ≤ n ∧ n ≤ 4
  · obtain ⟨k, a, b, c⟩ := g
    have h3 := ar_le k
    rcases (show ar k = 0 ∨ ar k = 1 ∨ ar k = 2 ∨ ar k = 3 by omega) with h | h | h | h
    · rw [gtB_zero h]; exact ivalidG_zero _ n w hn h
    · rw [gtB_1 h hn]
      by_cases hb : b = 0
      · subst hb
        by_cases hc : c = 0
        · subst hc
          rw [show (decide ((0 : Int) = 0) && decide ((0 : Int) = 0) && dq [a] n) = dq [a] n by simp]
          exact ivalidG_12 k a n w hn h
        · rw [decide_eq_false hc, Bool.and_false, Bool.false_and]
          exact ivalidG_11 k a c n w hn h hc
      · rw [decide_eq_false hb, Bool.false_and, Bool.false_and]
        exact ivalidG_10 k a b c n w hn h hb
    · rw [gtB_2 h hn]
      by_cases hc : c = 0
      · subst hc
        rw [show (decide ((0 : Int) = 0) && dq [a, b] n) = dq [a, b] n by simp]
        exact ivalidG_21 k a b n w hn h
      · rw [decide_eq_false hc, Bool.false_and]
        exact ivalidG_20 k a b c n w hn h hc
    · rw [gtB_3 h hn]; exact ivalidG_30 k a b c n w hn h
  · rw [gtB_no hn]; exact ivalidG_no g n w hn n0 n1
end Go.Proofs.YtlmiebeffdcfhaaGreat
namespace Go.Proofs.YtlmiebeffdcfhaaGreat
open Go.RowKit
/-- A guarded operation that is wanted. -/
theorem wpList_want {P : Program} {w : World} {ops : Array Oper} {rest : List Oper} {o : Oper} {a : Act} {Q : Exit → Act → World → Prop} (hw : Region.wanted o (yielded ops a.tmps) = true)
    (h : ∀ K : Act → World → Prop, (∀ a w, wpList P ops Q rest a w → K a w) → o.wp P a w K Q) : wpList P ops Q (o :: rest) a w :=
  wpList_step fun K hK => by rw [if_pos hw]; exact h K hK
theorem wpList_append_slW {α : Type} {E : Enc α} {P : Program} {w : World} {ops : Array Oper} {rest : List Oper} {o : Oper} {a : Act} {Q : Exit → Act → World → Prop} (hw : Region.wanted o (yielded ops a.tmps) = true) (s x : Operand) (t : TypeId)
    (ho : o.op = .call { callee := .builtin .append, args := #[s, x], argTypes := #[t, t] })
    (base : Nat) (i : TypeInfo) (z : Value) (bytes : Nat) (ht : P.underlying t = some (.slice E.ty)) (hi : P.info? E.ty = some i) (hz : i.zero = some z)
    (hsize : i.size = E.n) (hby : i.bytes = bytes) (hzs : z.cells.size = E.n) (hsz : 0 < E.n)
    (v : Value) (n : Nat) (xs : List Value) (hs : a.eval s = v) (hown : w.ownsRow base E.ty E.n v n xs) (B : Nat) (X : Value) (M : List α) (hx : a.eval x = X) (hX : E.Sl w B X M)
    (h63 : n + M.length ≤ maxLen) (hbytes : (n + M.length) * bytes ≤ 140737488355328) (hbase : base ≤ w.heap.size)
    (h : ∀ v' w', w'.ownsRow base E.ty E.n v' (n + M.length) (xs ++ E.flat M) → w.grownBy w' v.ownBlock → (v'.ownBlock = v.ownBlock ∨ v'.ownBlock = some w.heap.size) → wpList P ops Q rest (a.put o.dst v') w') : wpList P ops Q (o :: rest) a w := by
  refine wpList_want hw fun _ hK => ?_
  obtain ⟨v', w', hr, h2, h3, h4⟩ := run_append_sl (P := P) w base t o.type i z bytes ht hi hz hsize hby hzs hsz v n xs hown B X M hX h63 hbytes hbase
  unfold Oper.wp execOp
  simp only [ho, resolve, invoke, builtin, Sem.run_bind, Sem.run_pure, Result.andThen_ok, List.map_toArray, List.map_cons, List.map_nil, hs, hx, hr]
  exact hK _ _ (h v' w' h2 h3 h4)
end Go.Proofs.YtlmiebeffdcfhaaGreat
namespace Go.Proofs.YtlmiebeffdcfhaaGreat
/-- Whether an entry keeps the control. -/
def kpC (q : Nat) (M : List (List Dw)) (i k : Nat) : Bool := bitN i q == bitN k q || decide ((M.getD i []).getD k .zero = .zero)
def kpR (q : Nat) (M : List (List Dw)) (i : Nat) : Bool := (List.range M.length).all fun k => kpC q M i k
def kpB (q : Nat) (M : List (List Dw)) : Bool := (List.range M.length).all fun i => kpR q M i
theorem ctMB_eq (q : Int) (M : List (List Dw)) : ctMB q M = (mtB M && (decide (0 ≤ q ∧ q ≤ qc M.length - 1) && kpB q.toNat M)) := rfl
theorem kpC_at {q : Nat} {M : List (List Dw)} {i k : Nat} {r : List Dw} {x : Dw} (hr : M[i]? = some r) (hx : r[k]? = some x) : kpC q M i k = (bitN i q == bitN k q || decide (x = .zero)) := by
  unfold kpC
  rw [List.getD_eq_getElem?_getD, List.getD_eq_getElem?_getD, hr, Option.getD_some, hx, Option.getD_some]
theorem kpR_no {q : Nat} {M : List (List Dw)} {i k : Nat} (hk : k < M.length) (h : kpC q M i k = false) : kpR q M i = false := by
  unfold kpR
  rw [List.all_eq_false]
  exact ⟨k, List.mem_range.2 hk, by rw [h]; decide⟩
theorem kpB_no {q : Nat} {M : List (List Dw)} {i k : Nat} (hi : i < M.length) (hk : k < M.length) (h : kpC q M i k = false) : kpB q M = false := by
  unfold kpB
  rw [List.all_eq_false]
  exact ⟨i, List.mem_range.2 hi, by rw [kpR_no hk h]; decide⟩
theorem kpR_yes {q : Nat} {M : List (List Dw)} {i : Nat} (h : ∀ k, k < M.length → kpC q M i k = true) : kpR q M i = true := by
  unfold kpR
  rw [List.all_eq_true]
  exact fun k hk => h k (List.mem_range.1 hk)
theorem kpB_yes {q : Nat} {M : List (List Dw)} (h : ∀ i, i < M.length → kpR q M i = true) : kpB q M = true := by
  unfold kpB
  rw [List.all_eq_true]
  exact fun i hi => h i (List.mem_range.1 hi)
/-- Row i of the controlled matrix. -/
def ctRow (q : Nat) (M : List (List Dw)) (i : Nat) : List Dw := (List.range M.length).map fun k => if bitN k q then (M.getD i []).getD k .zero else if k = i then oneD else .zero
theorem ctV_eq (q : Nat) (M : List (List Dw)) : ctV q M = (List.range M.length).map (ctRow q M) := rfl
theorem ctV_len (q : Nat) (M : List (List Dw)) : (ctV q M).length = M.length := by rw [ctV_eq, List.length_map, List.length_range]
theorem ctRow_len (q : Nat) (M : List (List Dw)) (i : Nat) : (ctRow q M i).length = M.length := by rw [ctRow, List.length_map, List.length_range]
theorem ctV_row {q : Nat} {M : List (List Dw)} {i : Nat} (h : i < M.length) : (ctV q M)[i]? = some (ctRow q M i) := by rw [ctV_eq, List.getElem?_map, List.getElem?_range h]; rfl
theorem ctRow_yes {q : Nat} {M : List (List Dw)} {i k : Nat} {r : List Dw} {x : Dw} (hk : k < M.length) (hr : M[i]? = some r) (hx : r[k]? = some x) (hb : bitN k q = true) : (ctRow q M i)[k]? = some x := by
  rw [ctRow, List.getElem?_map, List.getElem?_range hk, Option.map_some, hb, if_pos rfl, List.getD_eq_getElem?_getD, List.getD_eq_getElem?_getD, hr, Option.getD_some, hx, Option.getD_some]
theorem ctRow_no {q : Nat} {M : List (List Dw)} {i k : Nat} (hk : k < M.length) (hb : bitN k q = false) : (ctRow q M i)[k]? = some (if k = i then oneD else .zero) := by
  rw [ctRow, List.getElem?_map, List.getElem?_range hk, Option.map_some, hb, if_neg (by decide)]
/-- The identity's row. -/
def idRow (N i : Nat) : List Dw := (List.replicate N .zero).set i oneD
theorem idRow_len (N i : Nat) : (idRow N i).length = N := by rw [idRow, List.length_set, List.length_replicate]
theorem idRow_at {N i k : Nat} (hk : k < N) (_ : i < N) : (idRow N i)[k]? = some (if k = i then oneD else .zero) := by
  unfold idRow
  by_cases e : k = i
  · subst e
    rw [if_pos rfl, List.getElem?_set_self (by rw [List.length_replicate]; exact hk)]
  · rw [if_neg e, List.getElem?_set_ne (fun h => e h.symm), List.getElem?_replicate, if_pos hk]
theorem idM_row {N i : Nat} (hq : 0 < qc N) (h : i < N) : (idM (qc N))[i]? = some (idRow N i) := by
  rcases (show N = 2 ∨ N = 4 ∨ N = 8 ∨ N = 16 by unfold qc at hq; (repeat' split at hq) <;> omega) with rfl | rfl | rfl | rfl
  · have e : (2 : Int) ^ (1 : Int).toNat = 2 := rfl
    rw [show qc 2 = 1 from rfl, idM_yes (by decide), List.getElem?_map, List.getElem?_range (show i < 2 ^ (1 : Int).toNat from h)]
    show some (basisL 1 _) = _
    unfold basisL
    rw [if_pos ⟨by decide, by decide, by omega, by rw [e]; omega⟩]
    rfl
  · have e : (2 : Int) ^ (2 : Int).toNat = 4 := rfl
    rw [show qc 4 = 2 from rfl, idM_yes (by decide), List.getElem?_map, List.getElem?_range (show i < 2 ^ (2 : Int).toNat from h)]
    show some (basisL 2 _) = _
    unfold basisL
    rw [if_pos ⟨by decide, by decide, by omega, by rw [e]; omega⟩]
    rfl
  · have e : (2 : Int) ^ (3 : Int).toNat = 8 := rfl
    rw [show qc 8 = 3 from rfl, idM_yes (by decide), List.getElem?_map, List.getElem?_range (show i < 2 ^ (3 : Int).toNat from h)]
    show some (basisL 3 _) = _
    unfold basisL
    rw [if_pos ⟨by decide, by decide, by omega, by rw [e]; omega⟩]
    rfl
  · have e : (2 : Int) ^ (4 : Int).toNat = 16 := rfl
    rw [show qc 16 = 4 from rfl, idM_yes (by decide), List.getElem?_map, List.getElem?_range (show i < 2 ^ (4 : Int).toNat from h)]
    show some (basisL 4 _) = _
    unfold basisL
    rw [if_pos ⟨by decide, by decide, by omega, by rw [e]; omega⟩]
    rfl
theorem idM_lenq {N : Nat} (hq : 0 < qc N) : (idM (qc N)).length = N := by
  rcases (show N = 2 ∨ N = 4 ∨ N = 8 ∨ N = 16 by unfold qc at hq; (repeat' split at hq) <;> omega) with rfl | rfl | rfl | rfl <;> rfl
/-- A list that is half written. -/
theorem mixL_at {α : Type} {A B : List α} {k : Nat} (hl : A.length = B.length) {y : α} (hy : B[k]? = some y) : (A.take k ++ B.drop k)[k]? = some y := by
  have hk : k < B.length := by
    rcases Nat.lt_or_ge k B.length with h | h
    · exact h
    · rw [List.getElem?_eq_none h] at hy; cases hy
  rw [List.getElem?_append_right (by rw [List.length_take]; omega), List.length_take, List.getElem?_drop, show k + (k - min k A.length) = k by omega, hy]
theorem mixL_set {α : Type} {A B : List α} {k : Nat} (hl : A.length = B.length) {x : α} (hx : A[k]? = some x) : (A.take k ++ B.drop k).set k x = A.take (k + 1) ++ B.drop (k + 1) := by
  have hk : k < A.length := by
    rcases Nat.lt_or_ge k A.length with h | h
    · exact h
    · rw [List.getElem?_eq_none h] at hx; cases hx
  have e : (A.take k).length = k := by rw [List.length_take]; omega
  rw [List.set_append_right _ _ (by omega), e, Nat.sub_self, List.drop_eq_getElem_cons (show k < B.length by omega), List.set_cons_zero, List.take_add_one, hx]
  simp
theorem mixL_same {α : Type} {A B : List α} {k : Nat} (hl : A.length = B.length) {x : α} (hx : A[k]? = some x) (hy : B[k]? = some x) : A.take (k + 1) ++ B.drop (k + 1) = A.take k ++ B.drop k := by
  rw [← mixL_set hl hx]
  have h := mixL_at hl hy
  refine List.ext_getElem? fun i => ?_
  by_cases e : i = k
  · subst e
    rw [List.getElem?_set_self (by
      rcases Nat.lt_or_ge i (A.take i ++ B.drop i).length with h' | h'
      · exact h'
      · rw [List.getElem?_eq_none h'] at h; cases h), h]
  · rw [List.getElem?_set_ne (fun h => e h.symm)]
theorem mixL_len {α : Type} {A B : List α} {k : Nat} (hl : A.length = B.length) (hk : k ≤ B.length) : (A.take k ++ B.drop k).length = B.length := by
  rw [List.length_append, List.length_take, List.length_drop]; omega
/-- A bit, as a number. -/
def bitZ (i q : Nat) : Int := if bitN i q then 1 else 0
theorem bitZ_all : ∀ i : Fin 16, ∀ q : Fin 4, bits .and .i64 (((i.val : Nat) : Int) / 2 ^ q.val) 1 = bitZ i.val q.val := by decide +kernel
theorem bitZ_bits {i q : Nat} (hi : i < 16) (hq : q < 4) : bits .and .i64 ((i : Int) / 2 ^ q) 1 = bitZ i q := bitZ_all ⟨i, hi⟩ ⟨q, hq⟩
theorem bitZ_eq {i k q : Nat} : (bitZ i q != bitZ k q) = !(bitN i q == bitN k q) := by
  unfold bitZ
  cases bitN i q <;> cases bitN k q <;> rfl
theorem bitZ_one {i q : Nat} : (bitZ i q == 1) = bitN i q := by
  unfold bitZ
  cases bitN i q <;> rfl
end Go.Proofs.YtlmiebeffdcfhaaGreat
namespace Go.Proofs.YtlmiebeffdcfhaaGreat
open Go.RowKit
attribute [local irreducible] World.cell?
set_option maxRecDepth 100000 in
set_option maxHeartbeats 800000 in
theorem sone (k q : Int) (w : World) : Calls Tryz.prog 34 #[.int .i64 k, .int .i64 q] w fun e w' => e = .returned (.agg #[.int .i64 k, .int .i64 q, .int .i64 0, .int .i64 0]) ∧ Below w.heap.size w w' := by
  go_enter Tryz.func34, Tryz.ntmps34
  go_wp2_with fail
  refine bodyPost_ret (v := .agg #[.int .i64 k, .int .i64 q, .int .i64 0, .int .i64 0]) (by simp [results, Tryz.results34, go_sem]) rfl ⟨rfl, ?_⟩
  go_grown
set_option maxRecDepth 100000 in
set_option maxHeartbeats 800000 in
theorem scx (a b : Int) (w : World) : Calls Tryz.prog 33 #[.int .i64 a, .int .i64 b] w fun e w' => e = .returned (.agg #[.int .i64 9, .int .i64 a, .int .i64 b, .int .i64 0]) ∧ Below w.heap.size w w' := by
  go_enter Tryz.func33, Tryz.ntmps33
  go_wp2_with fail
  refine bodyPost_ret (v := .agg #[.int .i64 9, .int .i64 a, .int .i64 b, .int .i64 0]) (by simp [results, Tryz.results33, go_sem]) rfl ⟨rfl, ?_⟩
  go_grown
end Go.Proofs.YtlmiebeffdcfhaaGreat
namespace Go.Proofs.YtlmiebeffdcfhaaGreat
def oneZ : Zw := ⟨1, 0, 0, 0⟩
theorem mul_oneZ (x : Zw) : x.mul oneZ = x := mul_one' x
theorem oneZ_mul (x : Zw) : oneZ.mul x = x := one_mul' x
/-- The coefficient from i to j of gates one behind the other, over the root's power of their number. -/
def cl (N : Nat) : List Gt → Nat → Nat → Zw
  | [], i, j => if i = j then oneZ else .zero
  | g :: L, i, j => sumZ N fun m => (cf (goesG g i) m).mul (cl N L m j)
/-- Gates applied to a state: the values. -/
theorem ags_val : ∀ {L : List Gt} {v w : List Dw}, agsF L v = some w → stB v = true → w.length = v.length ∧ stB w = true ∧ ∀ j, j < v.length → rootN L.length (vl (w.getD j .zero)) = sumZ v.length fun i => (vl (v.getD i .zero)).mul (cl v.length L i j)
  | [], v, w, h, hs => by
    rw [agsF] at h
    cases h
    refine ⟨rfl, hs, fun j hj => ?_⟩
    rw [sumZ_one (fun i => (vl (v.getD i .zero)).mul (cl v.length [] i j)) hj fun i _ hi => by rw [cl, if_neg hi, mul_zero'], cl, if_pos rfl, mul_oneZ]
    rfl
  | g :: L, v, w, h, hs => by
    rw [agsF] at h
    split at h
    · rename_i hb
      obtain ⟨u, hu⟩ := agB_some hb
      rw [agV_of hu] at h
      obtain ⟨lu, -, su⟩ := agO_val hu
      obtain ⟨h1, h2, h3⟩ := ags_val h su
      obtain ⟨a1, a2, a3⟩ := agO_some hu
      obtain ⟨-, -, e⟩ := ap_zero (goesG_e a2) a3
      refine ⟨h1.trans lu, h2, fun j hj => ?_⟩
      rw [List.length_cons, rootN_succ, h3 j (by omega), root_sumZ, lu]
      have s1 : ∀ m, m < v.length → ((vl (u.getD m .zero)).mul (cl v.length L m j)).root = sumZ v.length fun i => (vl (v.getD i .zero)).mul ((cf (goesG g i) m).mul (cl v.length L m j)) := fun m _ => by
        rw [root_mul, e, sumZ_mul]
        exact sumZ_congr fun i _ => mul_assoc' _ _ _
      rw [sumZ_congr s1, sumZ_swap]
      refine sumZ_congr fun i _ => ?_
      rw [cl, mul_sumZ]
    · cases h
/-- The matrix M represents, over the root's power s, the coefficients C (from the column to the row). -/
def Rep (M : List (List Dw)) (N s : Nat) (C : Nat → Nat → Zw) : Prop :=
  M.length = N ∧ (∀ r ∈ M, r.length = N ∧ ∀ x ∈ r, x.ok) ∧ ∀ k, k < N → ∀ i, i < N → rootN s (vl ((M.getD k []).getD i .zero)) = rootN 60 (C i k)
theorem Rep.row {M : List (List Dw)} {N s : Nat} {C : Nat → Nat → Zw} (h : Rep M N s C) {k : Nat} (hk : k < N) : ∃ r, M[k]? = some r ∧ M.getD k [] = r ∧ r.length = N ∧ ∀ x ∈ r, x.ok := by
  have hl : k < M.length := by rw [h.1]; exact hk
  refine ⟨M[k], List.getElem?_eq_getElem hl, ?_, h.2.1 _ (List.getElem_mem hl)⟩
  rw [List.getD_eq_getElem?_getD, List.getElem?_eq_getElem hl]
  rfl
theorem Rep.eq {M P : List (List Dw)} {N s : Nat} {C D : Nat → Nat → Zw} (h : Rep M N s C) (k : Rep P N s D) (e : ∀ i, i < N → ∀ j, j < N → C i j = D i j) : M = P := by
  apply List.ext_getElem (h.1.trans k.1.symm)
  intro a ha hb
  have haN : a < N := by rw [← h.1]; exact ha
  obtain ⟨r, r1, r2, r3, r4⟩ := h.row haN
  obtain ⟨q, q1, q2, q3, q4⟩ := k.row haN
  rw [List.getElem?_eq_getElem ha] at r1
  rw [List.getElem?_eq_getElem hb] at q1
  injection r1 with r1
  injection q1 with q1
  rw [r1, q1]
  refine getD_eq (r3.trans q3.symm) fun i hi => vl_inj (getD_ok r4 i) (getD_ok q4 i) (rootN_inj (k := s) ?_)
  have hiN : i < N := by omega
  have h1 := h.2.2 a haN i hiN
  have k1 := k.2.2 a haN i hiN
  rw [r2] at h1
  rw [q2] at k1
  rw [h1, k1, e i hiN a haN]
/-- The columns of a matrix, each found, give it again. -/
theorem col_getD (L : List (List Dw)) (k i : Nat) (hi : i < L.length) : (col L k).getD i .zero = (L.getD i []).getD k .zero := by
  rw [col, List.getD_eq_getElem?_getD, List.getElem?_map, List.getD_eq_getElem?_getD (l := L), List.getElem?_eq_getElem hi]
  rfl
theorem colsM_getD (L : List (List Dw)) (k : Nat) (hk : k < L.length) : (colsM L).getD k [] = col L k := by
  rw [colsM, List.getD_eq_getElem?_getD, List.getElem?_map, List.getElem?_range hk]
  rfl
/-- The matrix of gates. -/
theorem cir_rep {L : List Gt} {n : Nat} (h1 : 1 ≤ n) (h4 : n ≤ 4) (hb : cirB L n = true) : Rep (cirM L n) (2 ^ n) L.length (cl (2 ^ n) L) := by
  have hq : qc (2 ^ n) = n := by rcases (show n = 1 ∨ n = 2 ∨ n = 3 ∨ n = 4 by omega) with rfl | rfl | rfl | rfl <;> decide
  have hq0 : 0 < qc (2 ^ n) := by rw [hq]; omega
  have hM : cirM L n = colsM (cirC L n) := if_pos hb
  have hC := cirC_len L n
  have hcol : ∀ i : Nat, i < 2 ^ n → (cirC L n).getD i [] = agsV L (basisL n i) := fun i hi => by
    rw [cirC, List.getD_eq_getElem?_getD, List.getElem?_map, List.getElem?_range hi]; rfl
  have hag : ∀ i : Nat, i < 2 ^ n → ∃ w, agsF L (basisL n i) = some w ∧ agsV L (basisL n i) = w ∧ stB (basisL n i) = true ∧ (basisL n i).length = 2 ^ n := fun i hi => by
    have h := List.all_eq_true.1 hb i (List.mem_range.2 hi)
    obtain ⟨w, hw⟩ := agsB_some h
    obtain ⟨s1, s2⟩ := basis_st hq0 hi
    rw [hq] at s1 s2
    refine ⟨w, ?_, by unfold agsV; rw [hw]; rfl, s1, s2⟩
    unfold agsO at hw
    rwa [if_pos s1] at hw
  rw [hM]
  refine ⟨by rw [colsM_len, hC], fun r hr => ?_, fun k hk i hi => ?_⟩
  · obtain ⟨k, hk, rfl⟩ := List.mem_map.1 hr
    refine ⟨by rw [col_len, hC], fun x hx => ?_⟩
    obtain ⟨q, hq', rfl⟩ := List.mem_map.1 hx
    obtain ⟨i, hi, rfl⟩ := List.mem_map.1 hq'
    exact getD_ok (agsV_ok' L _) k
  · rw [colsM_getD _ _ (by rw [hC]; exact hk), col_getD _ _ _ (by rw [hC]; exact hi), hcol i hi]
    obtain ⟨w, hw, hv, s1, s2⟩ := hag i hi
    obtain ⟨-, -, e⟩ := ags_val hw s1
    rw [s2] at e
    rw [hv, e k hk]
    have hbe := basis_eq hq0 hi
    rw [hq] at hbe
    rw [sumZ_one (fun a => (vl ((basisL n i).getD a .zero)).mul (cl (2 ^ n) L a k)) hi fun a _ ha => by
      rw [hbe, getD_set _ _ _ _ (by rw [List.length_replicate]; exact hi), if_neg (fun x => ha x.symm), rep_getD, vl_zero, zero_mul']]
    rw [hbe, getD_set _ _ _ _ (by rw [List.length_replicate]; exact hi), if_pos rfl, vl_one, ← rootN_mul, one_mul']
end Go.Proofs.YtlmiebeffdcfhaaGreat
namespace Go.Proofs.YtlmiebeffdcfhaaGreat
open Go.RowKit
theorem zero_okC : Dw.zero.ok := by decide
theorem amps_leC : ∀ {M : List (List Dw)}, (∀ r ∈ M, r.length ≤ 16) → amps M ≤ M.length * 16
  | [], _ => by simp [amps]
  | r :: M, h => by
    have h1 := amps_leC (M := M) fun s hs => h s (List.mem_cons_of_mem _ hs)
    have h2 := h r List.mem_cons_self
    have e : amps (r :: M) = r.length + amps M := by simp [amps]
    rw [e, List.length_cons, Nat.succ_mul]
    omega
theorem getD_okC {r : List Dw} (h : ∀ x ∈ r, x.ok) (k : Nat) : (r.getD k .zero).ok := by
  rw [List.getD_eq_getElem?_getD]
  cases e : r[k]? with
  | none => exact zero_okC
  | some x => exact h x (List.mem_of_getElem? e)
theorem ctM_amps (q : Int) (M : List (List Dw)) : (ctM q M).length ≤ 16 ∧ amps (ctM q M) ≤ 256 ∧ EbM (ctM q M) := by
  cases h : ctMB q M with
  | false => rw [show ctM q M = [] by unfold ctM; rw [h]; rfl]; exact ⟨Nat.zero_le _, Nat.zero_le _, fun r hr => absurd hr List.not_mem_nil⟩
  | true =>
    have hM : mtB M = true := by rw [ctMB_eq] at h; exact (Bool.and_eq_true_iff.1 h).1
    rw [show ctM q M = ctV q.toNat M by unfold ctM; rw [h]; rfl]
    have h1 := mtB_len hM
    have hok : ∀ r ∈ M, ∀ x ∈ r, x.ok := fun r hr => (stB_iff.1 ((mtB_iff.1 hM).2 r hr).2).1
    have hat : ∀ i k, ((M.getD i []).getD k .zero).ok := fun i k => by
      refine getD_okC (fun x hx => ?_) k
      rw [List.getD_eq_getElem?_getD] at hx
      cases e : M[i]? with
      | none => rw [e] at hx; exact absurd hx List.not_mem_nil
      | some r => rw [e] at hx; exact hok r (List.mem_of_getElem? e) x hx
    have hrow : ∀ r ∈ ctV q.toNat M, r.length ≤ 16 ∧ ∀ x ∈ r, x.ok := fun r hr => by
      rw [ctV_eq] at hr
      obtain ⟨i, -, rfl⟩ := List.mem_map.1 hr
      refine ⟨by rw [ctRow_len]; exact h1, fun x hx => ?_⟩
      obtain ⟨k, -, rfl⟩ := List.mem_map.1 hx
      split
      · exact hat i k
      · split
        · exact oneD_ok
        · exact zero_okC
    refine ⟨by rw [ctV_len]; exact h1, ?_, fun r hr x hx => ?_⟩
    · have h2 := amps_leC fun r hr => (hrow r hr).1
      rw [ctV_len] at h2
      omega
    · have h3 := ((hrow r hr).2 x hx).2
      omega
end Go.Proofs.YtlmiebeffdcfhaaGreat
namespace Go.Proofs.YtlmiebeffdcfhaaGreat
open Go.RowKit
/-- The function value F, C is the action of the gate g, in w and wherever memory has grown since. -/
def ActOK (F : Nat) (C : Array Value) (g : Gt) (w : World) : Prop :=
  (∀ (args : Array Value) (W : World), (callFunc F args).run Tryz.prog W = .ok (.enter F args) W) ∧ ∀ W, Below w.heap.size w W → ∀ i : Nat, i < 16 → Calls Tryz.prog F (#[(.agg #[.int .i64 g.k, .int .i64 g.a, .int .i64 g.b, .int .i64 g.c]), .int .i64 (i : Int)] ++ C) W fun e w' => ∃ v, e = .returned v ∧ contE.Sl w' W.heap.size v (goesG g i) ∧ Below W.heap.size W w'
def gin (a b c : Int) : Prop := (0 ≤ a ∧ a < 4) ∧ (0 ≤ b ∧ b < 4) ∧ (0 ≤ c ∧ c < 4)
theorem gin_nat {a b c : Int} (h : gin a b c) : ∃ A B C : Nat, a = A ∧ b = B ∧ c = C ∧ A < 4 ∧ B < 4 ∧ C < 4 := by
  obtain ⟨h1, h2, h3⟩ := h
  exact ⟨a.toNat, b.toNat, c.toNat, by omega, by omega, by omega, by omega, by omega, by omega⟩
theorem act1 {a b c : Int} (h : gin a b c) (w : World) : ActOK 143 #[] ⟨1, a, b, c⟩ w := by
  obtain ⟨A, B, C, rfl, rfl, rfl, hA, hB, hC⟩ := gin_nat h
  exact ⟨Tryz.call143, fun W _ i hi => iflip 1 A B C i W hA hB hC hi⟩
theorem act2 {a b c : Int} (h : gin a b c) (w : World) : ActOK 144 #[] ⟨2, a, b, c⟩ w := by
  obtain ⟨A, B, C, rfl, rfl, rfl, hA, hB, hC⟩ := gin_nat h
  exact ⟨Tryz.call144, fun W _ i hi => iflipT 2 A B C i W hA hB hC hi⟩
theorem act3 {a b c : Int} {p : Nat} (h : gin a b c) (w : World) (hp : OneInt w p 4) : ActOK 157 #[.pointer (some ⟨p, 0, none⟩)] ⟨3, a, b, c⟩ w := by
  obtain ⟨A, B, C, rfl, rfl, rfl, hA, hB, hC⟩ := gin_nat h
  exact ⟨Tryz.call157, fun W hW i hi => iturn1 3 A B C i 4 p _ W hA hB hC hi ((hW.block _ (lt_of_block hp)).trans hp) ((unitW (bitN i A)).1 4 (by decide))⟩
theorem act4 {a b c : Int} (h : gin a b c) (w : World) : ActOK 146 #[] ⟨4, a, b, c⟩ w := by
  obtain ⟨A, B, C, rfl, rfl, rfl, hA, hB, hC⟩ := gin_nat h
  exact ⟨Tryz.call146, fun W _ i hi => ispread 4 A B C i W hA hi⟩
theorem act5 {a b c : Int} {p : Nat} (h : gin a b c) (w : World) (hp : OneInt w p 2) : ActOK 157 #[.pointer (some ⟨p, 0, none⟩)] ⟨5, a, b, c⟩ w := by
  obtain ⟨A, B, C, rfl, rfl, rfl, hA, hB, hC⟩ := gin_nat h
  exact ⟨Tryz.call157, fun W hW i hi => iturn1 5 A B C i 2 p _ W hA hB hC hi ((hW.block _ (lt_of_block hp)).trans hp) ((unitW (bitN i A)).1 2 (by decide))⟩
theorem act6 {a b c : Int} {p : Nat} (h : gin a b c) (w : World) (hp : OneInt w p (-2)) : ActOK 157 #[.pointer (some ⟨p, 0, none⟩)] ⟨6, a, b, c⟩ w := by
  obtain ⟨A, B, C, rfl, rfl, rfl, hA, hB, hC⟩ := gin_nat h
  exact ⟨Tryz.call157, fun W hW i hi => iturn1 6 A B C i (-2) p _ W hA hB hC hi ((hW.block _ (lt_of_block hp)).trans hp) (unitW (bitN i A)).2.1⟩
theorem act7 {a b c : Int} {p : Nat} (h : gin a b c) (w : World) (hp : OneInt w p 1) : ActOK 157 #[.pointer (some ⟨p, 0, none⟩)] ⟨7, a, b, c⟩ w := by
  obtain ⟨A, B, C, rfl, rfl, rfl, hA, hB, hC⟩ := gin_nat h
  exact ⟨Tryz.call157, fun W hW i hi => iturn1 7 A B C i 1 p _ W hA hB hC hi ((hW.block _ (lt_of_block hp)).trans hp) ((unitW (bitN i A)).1 1 (by decide))⟩
theorem act8 {a b c : Int} {p : Nat} (h : gin a b c) (w : World) (hp : OneInt w p (-1)) : ActOK 157 #[.pointer (some ⟨p, 0, none⟩)] ⟨8, a, b, c⟩ w := by
  obtain ⟨A, B, C, rfl, rfl, rfl, hA, hB, hC⟩ := gin_nat h
  exact ⟨Tryz.call157, fun W hW i hi => iturn1 8 A B C i (-1) p _ W hA hB hC hi ((hW.block _ (lt_of_block hp)).trans hp) (unitW (bitN i A)).2.2⟩
theorem act9 {a b c : Int} (h : gin a b c) (w : World) : ActOK 147 #[] ⟨9, a, b, c⟩ w := by
  obtain ⟨A, B, C, rfl, rfl, rfl, hA, hB, hC⟩ := gin_nat h
  exact ⟨Tryz.call147, fun W _ i hi => iflipO 9 A B C i W hA hB hC hi⟩
theorem act10 {a b c : Int} (h : gin a b c) (w : World) : ActOK 148 #[] ⟨10, a, b, c⟩ w := by
  obtain ⟨A, B, C, rfl, rfl, rfl, hA, hB, hC⟩ := gin_nat h
  exact ⟨Tryz.call148, fun W _ i hi => iturnB 10 A B C i W hA hB hC hi⟩
theorem act11 {a b c : Int} (h : gin a b c) (w : World) : ActOK 149 #[] ⟨11, a, b, c⟩ w := by
  obtain ⟨A, B, C, rfl, rfl, rfl, hA, hB, hC⟩ := gin_nat h
  exact ⟨Tryz.call149, fun W _ i hi => iexch 11 A B C i W hA hB hC hi⟩
theorem act12 {a b c : Int} (h : gin a b c) (w : World) : ActOK 150 #[] ⟨12, a, b, c⟩ w := by
  obtain ⟨A, B, C, rfl, rfl, rfl, hA, hB, hC⟩ := gin_nat h
  exact ⟨Tryz.call150, fun W _ i hi => iflipB 12 A B C i W hA hB hC hi⟩
end Go.Proofs.YtlmiebeffdcfhaaGreat
namespace Go.Proofs.YtlmiebeffdcfhaaGreat
open Go.RowKit
theorem set_same {o : List Dw} {k : Nat} (hk : k < o.length) : o.set k (o.getD k .zero) = o := by
  rw [List.getD_eq_getElem?_getD, List.getElem?_eq_getElem hk]
  exact List.set_getElem_self hk
theorem send_zero : ∀ {L : List (Nat × Dw)} {o : List Dw}, (∀ p ∈ L, p.1 < o.length ∧ p.2.ok) → (∀ y ∈ o, y.ok) → sendO .zero L o = some o
  | [], _, _, _ => rfl
  | p :: r, o, h, ho => by
    have hp := h p (List.mem_cons_self ..)
    have hm := dzero_mul hp.2
    have ha := dadd_zeroK (getD_ok ho p.1)
    rw [sendO, hm.1, hm.2, ha.1, ha.2, set_same hp.1]
    exact send_zero (fun q hq => h q (List.mem_cons_of_mem _ hq)) ho
theorem ap_step2 {G : Nat → List (Nat × Dw)} {l o : List Dw} {i : Nat} {x : Dw} (hx : l[i]? = some x) (hG : ∀ p ∈ G i, p.1 < o.length ∧ p.2.ok) (ho : ∀ y ∈ o, y.ok) :
    apO G i (l.drop i) o = match sendO x (G i) o with
      | some o' => apO G (i + 1) (l.drop (i + 1)) o'
      | none => none := by
  rw [ap_step hx]
  split
  · rename_i h
    rw [h, send_zero hG ho]
  · rfl
theorem goesG_ok (g : Gt) (i : Nat) : ∀ p ∈ goesG g i, p.2.ok := fun p hp => (goesL_e _ _ _ _ _ p hp).1
end Go.Proofs.YtlmiebeffdcfhaaGreat
namespace Go.Proofs.YtlmiebeffdcfhaaGreat
end Go.Proofs.YtlmiebeffdcfhaaGreat
namespace Go.Proofs.YtlmiebeffdcfhaaGreat
open Go.RowKit
/-- A matrix that was drawn: its sizes and exponents. -/
def MBd (M : List (List Dw)) : Prop := M.length ≤ 16 ∧ ∀ r ∈ M, Eb r ∧ r.length ≤ 16
def MBp (M : List (List Dw)) : Prop := M.length ≤ 16 ∧ ∀ r ∈ M, Eb r ∧ 1 ≤ r.length ∧ r.length ≤ 16
theorem MBp.bd {M : List (List Dw)} (h : MBp M) : MBd M := ⟨h.1, fun r hr => ⟨(h.2 r hr).1, (h.2 r hr).2.2⟩⟩
theorem ccM_bp (n : Int) (L : List Gt) : MBp (ccM n L) := ⟨ccM_row.1, fun r hr => ⟨(ccM_row.2 r hr).1.eb, (ccM_row.2 r hr).2⟩⟩
theorem MBd.amps {M : List (List Dw)} (h : MBd M) : amps M ≤ 1048576 := by
  have := amps_le16 (M := M) fun r hr => (h.2 r hr).2
  have := h.1
  omega
theorem right_i (B : Nat) (n : Int) (m : Nat) (w : World) (hcur : CurAt w B) (hB : B < w.heap.size) (h1 : 1 ≤ n) (h4 : n ≤ 4) (hm : m ≤ 60) :
    Calls Tryz.prog 46 #[.pointer (some ⟨B, 0, none⟩), .int .i64 n, .int .i64 m] w fun e w' => (∃ v l, e = .returned (.agg #[.int .i64 n, v]) ∧ List.length l ≤ m ∧ gtE.Sl w' w.heap.size v l) ∧ CurAt w' B ∧ Own B w w' := by
  obtain ⟨k, rfl⟩ : ∃ k : Nat, n = k := ⟨n.toNat, by omega⟩
  refine (right_any B k m w hcur hB (by omega) (by omega) hm).mono ?_
  rintro e w1 ⟨⟨v, l, rfl, hl, _, hs⟩, hc, ho⟩
  exact ⟨⟨v, l, rfl, hl, hs⟩, hc, ho⟩
attribute [local irreducible] World.cell?
end Go.Proofs.YtlmiebeffdcfhaaGreat
namespace Go.Proofs.YtlmiebeffdcfhaaGreat
open Go.RowKit
theorem MRow.len {w : World} {B C g : Nat} {M : List (List Dw)} (h : MRow w B C g M) : RwS w B C (h.choose.toList.take M.length) M := by
  obtain ⟨vs, h1, h2, h3⟩ := h.choose_spec
  rw [h2]; exact h3
/-- Row k, and what its first amplitude's turn makes of the matrix. -/
theorem MRow.row {w : World} {B C g : Nat} {M : List (List Dw)} (h : MRow w B C g M) {k : Nat} {r : List Dw} (hr : M[k]? = some r) (hl : 0 < r.length) :
    ∃ b pc, w.cell? ⟨g, k, none⟩ = some (.slice (some ⟨b, 0, none⟩) r.length pc) ∧ B ≤ b ∧ b < w.heap.size ∧ DRow w b r ∧ ∀ z : Dw,
      MRow (((((w.setCell ⟨b, 0, none⟩ (.int .i64 z.n.a)).setCell ⟨b, 1, none⟩ (.int .i64 z.n.b)).setCell ⟨b, 2, none⟩ (.int .i64 z.n.c)).setCell ⟨b, 3, none⟩ (.int .i64 z.n.d)).setCell ⟨b, 4, none⟩ (.int .i64 z.e)) B C g (M.set k (r.set 0 z)) := by
  obtain ⟨a, cap, b, c, hc, h1, h2, h3, hd, hk⟩ := h.turn hr
  obtain ⟨a', cap', e, hcap, hrow⟩ := hd
  obtain ⟨b', e', hb, hc', hR⟩ := hrow hl
  injection e with e1 e2 e3
  subst e1 e3
  subst e'
  refine ⟨b', cap, hc, by omega, hR.lt, hR, fun z => ?_⟩
  refine hk _ (r.set 0 z) (by simp) ⟨_, _, by rw [List.length_set], by rw [List.length_set]; exact hcap, fun _ => ⟨b', rfl, hb, hc', hR.put 0 hl z⟩⟩ ?_
  exact (((((Mid.refl b c w).set hb hc' _).set hb hc' _).set hb hc' _).set hb hc' _).set hb hc' _
theorem MRow.own {w w' : World} {B C D g : Nat} {M : List (List Dw)} (h : MRow w D C g M) (ho : Own B w w') (hB : B < D) (hg : D ≤ g) : MRow w' D C g M :=
  h.block (ho.block g h.lt (by intro e; injection e with e; omega)) fun k hk _ hl => ho.block k hl (by intro e; injection e with e; omega)
theorem MBd.set {M : List (List Dw)} (h : MBd M) (k : Nat) {r : List Dw} (he : Eb r) (hl : r.length ≤ 16) : MBd (M.set k r) :=
  ⟨by rw [List.length_set]; exact h.1, fun s hs => by
    rcases List.mem_or_eq_of_mem_set hs with hs | rfl
    · exact h.2 s hs
    · exact ⟨he, hl⟩⟩
theorem MRow.take {w : World} {B C g : Nat} {M : List (List Dw)} (h : MRow w B C g M) (k : Nat) : MRow w B C g (M.take k) := by
  obtain ⟨cs, vs, h1, h2, h3, G, h4, h5⟩ := h
  refine ⟨cs, _, h1, rfl, ?_, G, fun j v r hv hr => ?_, fun i j r s hr hs => ?_⟩
  · rw [List.length_take, List.length_take, Array.length_toList]
    have := h3
    rw [← h2, List.length_take, Array.length_toList] at this
    omega
  · rw [List.getElem?_take] at hr
    split at hr
    · refine h4 j v r ?_ hr
      rw [← h2]
      rw [List.getElem?_take] at hv ⊢
      split at hv
      · rw [if_pos (by rw [List.length_take] at *; omega)]; exact hv
      · cases hv
    · cases hr
  · rw [List.getElem?_take] at hr hs
    split at hr
    · split at hs
      · exact h5 i j r s hr hs
      · cases hs
    · cases hr
attribute [local irreducible] World.cell?
end Go.Proofs.YtlmiebeffdcfhaaGreat
namespace Go.Proofs.YtlmiebeffdcfhaaGreat
open Go.RowKit
attribute [local irreducible] World.cell?
set_option maxRecDepth 100000 in
set_option maxHeartbeats 3200000 in
theorem ivalidC (B : Nat) (n : Int) (v : Value) (l : List Gt) (w : World) (hv : gtE.Sl w B v l) (hm : l.length ≤ 1048576) (n0 : -9223372036854775808 ≤ n) (n1 : n ≤ 9223372036854775807) :
    Calls Tryz.prog 43 #[.agg #[.int .i64 n, v]] w fun e w' => e = .returned (.bool (ciB n l)) ∧ Below w.heap.size w w' := by
  obtain ⟨a, cap, rfl, hcap, hr⟩ := hv
  have Hr := Lib.hid hr
  clear hr
  have HC0 := Lib.hid (heap_alloc_new w (.cells #[.int .i64 n, .slice a l.length cap] 38))
  have Hb0 := Lib.hid (show Below w.heap.size w (w.alloc (.cells #[.int .i64 n, .slice a l.length cap] 38)) by go_grown)
  obtain ⟨p0, p1⟩ := blk_cells2 HC0.out
  have hCl := lt_of_block HC0.out
  obtain ⟨T, hT⟩ : ∃ T, T = ciB n l := ⟨_, rfl⟩
  rw [← hT]
  have HT := Lib.hid (hT.trans (show ciB n l = (l.all (fun g => gtB g n) && (decide (1 ≤ n ∧ n ≤ 4) && decide (l.length ≤ 60))) from rfl))
  clear hT
  by_cases hn : 1 ≤ n ∧ n ≤ 4
  · have Hq := Lib.hid (fun w => iisq_yes n w hn)
    have HG := Lib.hid (fun x W => ivalidG x n W n0 n1)
    have HT1 := Lib.hid (HT.out.trans (by rw [decide_eq_true hn, Bool.true_and]))
    clear hn HT
    by_cases h60 : l.length ≤ 60
    · have HT2 := Lib.hid (HT1.out.trans (by rw [decide_eq_true h60, Bool.and_true]))
      clear HT1
      go_enter Tryz.func43, Tryz.ntmps43
      go_wp2_with (first | (go_at_call 64; refine (Hq.out _).mono ?_; rintro e wR ⟨rfl, rfl⟩))
      go_loopg [18] l.length (fun m i wr => ∃ j : Nat, m = l.length - j ∧ j ≤ l.length ∧ i = .int .i64 j ∧ Hid ((l.take j).all (fun g => gtB g n) = true) ∧ Hid (wr.heap[w.heap.size]? = some (.cells #[.int .i64 n, .slice a l.length cap] 38 (0, 0))) ∧ Hid (Below w.heap.size w wr))
      case atStart => exact ⟨0, rfl, Nat.zero_le _, rfl, rfl, HC0, Hb0⟩
      case round =>
        obtain ⟨j, rfl, hj, rfl, Hyes, HC, Hb⟩ := hrel
        clear p0 p1 hCl
        obtain ⟨p0, p1⟩ := blk_cells2 HC.out
        have hCl := lt_of_block HC.out
        have hsw := Hb.out.size
        by_cases hlt : j < l.length
        · obtain ⟨g, rfl, _, hrow⟩ := Hr.out (by omega)
          obtain ⟨x, hx⟩ : ∃ x, l[j]? = some x := ⟨l[j], List.getElem?_eq_getElem hlt⟩
          have r1 := hrow.below Hb.out hrow.lt
          obtain ⟨c0, c1, c2, c3⟩ := GRow.cells r1 hx
          have hgl := r1.lt
          have HX := Lib.hid (heap_alloc_new wr (.cells #[.int .i64 x.k, .int .i64 x.a, .int .i64 x.b, .int .i64 x.c] 25))
          have HC2 := Lib.hid (alloc_blk (.cells #[.int .i64 x.k, .int .i64 x.a, .int .i64 x.b, .int .i64 x.c] 25) HC.out)
          obtain ⟨q0, q1⟩ := blk_cells2 HC2.out
          have Hb' := Lib.hid (show Below w.heap.size w (wr.alloc (.cells #[.int .i64 x.k, .int .i64 x.a, .int .i64 x.b, .int .i64 x.c] 25)) from Hb.out.alloc hsw _)
          have Hat := Lib.hid (all_take (p := fun g => gtB g n) hx Hyes.out)
          have Hno := Lib.hid (fun h => all_no (p := fun g => gtB g n) hx h)
          have Hc := Lib.hid (fun W => HG.out x W)
          clear hrow r1 hx
          generalize gtB x n = t at *
          go_wp2_with fail
          refine (Hc.out _).mono ?_
          rintro e w4 ⟨rfl, hb4⟩
          have HC4 := Lib.hid (below_blk hb4 (lt_of_block HC2.out) HC2.out)
          have Hb4 := Lib.hid (below_nx Hb'.out hb4)
          have hs4 := Hb4.out.size
          clear hb4 c0 c1 c2 c3 hgl
          cases t with
          | true =>
            clear Hno
            go_wp2_with fail
            go_roundg (l.length - (j + 1))
            case measure => omega
            case rel => exact ⟨j + 1, rfl, by omega, by go_num, Hat, HC4, Hb4⟩
          | false =>
            obtain rfl : T = false := HT2.out.trans (Hno.out rfl)
            clear Hno
            go_wp2_with fail
            go_ret
            exact ⟨rfl, Hb4.out⟩
        · obtain rfl : j = l.length := by omega
          have hall := Hyes.out
          rw [List.take_length] at hall
          obtain rfl : T = true := HT2.out.trans hall
          clear hall
          go_wp2_with fail
          go_ret
          exact ⟨rfl, Hb.out⟩
    · obtain rfl : T = false := HT1.out.trans (by rw [decide_eq_false h60, Bool.and_false])
      have h61 : ¬ l.length ≤ 60 := h60
      clear HT1 h60 HG
      go_enter Tryz.func43, Tryz.ntmps43
      go_wp2_with (first | (go_at_call 64; refine (Hq.out _).mono ?_; rintro e wR ⟨rfl, rfl⟩))
      go_ret
      exact ⟨rfl, Hb0.out⟩
  · have Hq := Lib.hid (fun w => iisq_no n w hn n0 n1)
    obtain rfl : T = false := HT.out.trans (by rw [decide_eq_false hn, Bool.false_and, Bool.and_false])
    clear hn HT
    go_enter Tryz.func43, Tryz.ntmps43
    go_wp2_with (first | (go_at_call 64; refine (Hq.out _).mono ?_; rintro e wR ⟨rfl, rfl⟩))
    go_ret
    exact ⟨rfl, Hb0.out⟩
end Go.Proofs.YtlmiebeffdcfhaaGreat
