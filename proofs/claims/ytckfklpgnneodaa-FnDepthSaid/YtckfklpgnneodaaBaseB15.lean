/- BaseB15: several of our texts in one: CiV CiKb. -/
import Derived.Test.YtckfklpgnneodaaBaseB10
import Derived.Test.YtckfklpgnneodaaCiL
import Derived.Test.YtckfklpgnneodaaApS
import Derived.Test.YtckfklpgnneodaaGtR
import Derived.Laws.AppendOwn
namespace Go.Proofs.Ytckfklpgnneodaa
open Go.RowKit
theorem size_alloc1 (w : World) (o : Obj) : (w.alloc o).heap.size = w.heap.size + 1 := by simp
/-- A circuit's box. -/
def CB (w : World) (b : Nat) (n : Int) (v : Value) (w' : World) : Prop := w'.cell? ⟨b, 0, none⟩ = some (.int .i64 n) ∧ w'.cell? ⟨b, 1, none⟩ = some v ∧ b < w'.heap.size ∧ Below w.heap.size w w'
theorem CB.drew {w w1 : World} {b : Nat} {n : Int} {v : Value} (h : CB w b n v w1) : CB w b n v w1.drew := let ⟨a0, a1, z, l⟩ := h; ⟨a0, a1, z, l.drew⟩
theorem CB.below {w w1 w2 : World} {b : Nat} {n : Int} {v : Value} (h : CB w b n v w1) (hb : Below w1.heap.size w1 w2) : CB w b n v w2 :=
  let ⟨a0, a1, z, l⟩ := h
  ⟨cell_below a0 hb z, cell_below a1 hb z, Nat.lt_of_lt_of_le z hb.size, below_up l hb l.size⟩
theorem cell_set {w : World} {b o g p : Nat} {u v : Value} (h : w.cell? ⟨b, o, none⟩ = some v) (hn : b ≠ g) : (w.setCell ⟨g, p, none⟩ u).cell? ⟨b, o, none⟩ = some v :=
  (World.cell?_of_block (w := w) (a := ⟨b, o, none⟩) (Below.heap_setCell w ⟨g, p, none⟩ u b (by show b ≠ g; exact hn))).trans h
theorem CB.set {w w1 : World} {b g p : Nat} {n : Int} {v u : Value} (h : CB w b n v w1) (hn : b ≠ g) (hg : w.heap.size ≤ g) : CB w b n v (w1.setCell ⟨g, p, none⟩ u) :=
  let ⟨a0, a1, z, l⟩ := h
  ⟨cell_set a0 hn, cell_set a1 hn, by simpa [World.setCell] using z, l.setCell (p := ⟨g, p, none⟩) hg u⟩
/-- Two circuits' boxes. -/
def CB2 (w : World) (a b : Nat) (n m : Int) (v u : Value) (w' : World) : Prop := w'.cell? ⟨a, 0, none⟩ = some (.int .i64 n) ∧ w'.cell? ⟨a, 1, none⟩ = some v ∧ w'.cell? ⟨b, 0, none⟩ = some (.int .i64 m) ∧ w'.cell? ⟨b, 1, none⟩ = some u ∧ a < w'.heap.size ∧ b < w'.heap.size ∧ Below w.heap.size w w'
theorem CB2.drew {w w1 : World} {a b : Nat} {n m : Int} {v u : Value} (h : CB2 w a b n m v u w1) : CB2 w a b n m v u w1.drew := let ⟨a0, a1, b0, b1, z, z', l⟩ := h; ⟨a0, a1, b0, b1, z, z', l.drew⟩
theorem CB2.below {w w1 w2 : World} {a b : Nat} {n m : Int} {v u : Value} (h : CB2 w a b n m v u w1) (hb : Below w1.heap.size w1 w2) : CB2 w a b n m v u w2 :=
  let ⟨a0, a1, b0, b1, z, z', l⟩ := h
  ⟨cell_below a0 hb z, cell_below a1 hb z, cell_below b0 hb z', cell_below b1 hb z', Nat.lt_of_lt_of_le z hb.size, Nat.lt_of_lt_of_le z' hb.size, below_up l hb l.size⟩
attribute [local irreducible] World.cell?
end Go.Proofs.Ytckfklpgnneodaa
namespace Go.Proofs.Ytckfklpgnneodaa
open Go.RowKit
theorem wpList_append_sl {α : Type} {E : Enc α} {P : Program} {w : World} {ops : Array Oper} {rest : List Oper} {o : Oper} {a : Act} {Q : Exit → Act → World → Prop} (hgd : o.guard = none) (s x : Operand) (t : TypeId)
    (ho : o.op = .call { callee := .builtin .append, args := #[s, x], argTypes := #[t, t] })
    (base : Nat) (i : TypeInfo) (z : Value) (bytes : Nat) (ht : P.underlying t = some (.slice E.ty)) (hi : P.info? E.ty = some i) (hz : i.zero = some z)
    (hsize : i.size = E.n) (hby : i.bytes = bytes) (hzs : z.cells.size = E.n) (hsz : 0 < E.n)
    (v : Value) (n : Nat) (xs : List Value) (hs : a.eval s = v) (hown : w.ownsRow base E.ty E.n v n xs) (B : Nat) (X : Value) (M : List α) (hx : a.eval x = X) (hX : E.Sl w B X M)
    (h63 : n + M.length ≤ maxLen) (hbytes : (n + M.length) * bytes ≤ 140737488355328) (hbase : base ≤ w.heap.size)
    (h : ∀ v' w', w'.ownsRow base E.ty E.n v' (n + M.length) (xs ++ E.flat M) → w.grownBy w' v.ownBlock → (v'.ownBlock = v.ownBlock ∨ v'.ownBlock = some w.heap.size) → wpList P ops Q rest (a.put o.dst v') w') : wpList P ops Q (o :: rest) a w := by
  refine wpList_plain hgd fun _ hK => ?_
  obtain ⟨v', w', hr, h2, h3, h4⟩ := run_append_sl (P := P) w base t o.type i z bytes ht hi hz hsize hby hzs hsz v n xs hown B X M hX h63 hbytes hbase
  unfold Oper.wp execOp
  simp only [ho, resolve, invoke, builtin, Sem.run_bind, Sem.run_pure, Result.andThen_ok, List.map_toArray, List.map_cons, List.map_nil, hs, hx, hr]
  exact hK _ _ (h v' w' h2 h3 h4)
attribute [local irreducible] World.cell?
set_option maxRecDepth 100000 in
set_option maxHeartbeats 3200000 in
theorem iadd (C b : Nat) (n : Int) (v u : Value) (k : Nat) (xs : List Value) (M : List Gt) (w : World) (hb : w.heap[b]? = some (.cells #[.int .i64 n, v] 73 (0, 0))) (hown : w.ownsRow (b + 1) 59 4 v k xs) (hu : gtE.Sl w C u M) (hk : k + M.length ≤ 1048576) :
    Calls Try.prog 55 #[.pointer (some ⟨b, 1, none⟩), u] w fun e w' => e = .returned (.tuple #[]) ∧ (∃ v', w'.heap[b]? = some (.cells #[.int .i64 n, v'] 73 (0, 0)) ∧ w'.ownsRow (b + 1) 59 4 v' (k + M.length) (xs ++ gtE.flat M)) ∧ Below b w w' ∧ w.heap.size ≤ w'.heap.size ∧ (∀ (g : Nat) (o : Obj), w.heap[g]? = some o → g ≠ b → some g ≠ v.ownBlock → w'.heap[g]? = some o) := by
  obtain ⟨i0, hi, hz0, hz1, hz2⟩ := info_parts infoG3
  obtain ⟨c0, c1⟩ := blk_cells2 hb
  have hbl := lt_of_block hb
  have fb := fun o => free_at hb o
  have Hb := Lib.hid hb
  have Hown := Lib.hid hown
  have Hu := Lib.hid hu
  obtain ⟨pa, ca, hpa, -, -⟩ := id hu
  clear hb hown hu
  subst hpa
  go_enter Try.func55, Try.ntmps55
  go_wp2_with (first
    | (at_builtin; refine wpList_append_sl (E := gtE) rfl _ _ 24 rfl (b + 1) i0 (.agg #[.int .i64 0, .int .i64 0, .int .i64 0, .int .i64 0]) 32 Try.underlying24 hi hz0 hz1 hz2 rfl (by decide) v k xs rfl Hown.out C _ M rfl Hu.out ?d3 ?d4 ?d5 ?_))
  case d3 => unfold maxLen; omega
  case d4 => omega
  case d5 => omega
  intro v' w4 hown' hgrow hat
  have hne : some b ≠ v.ownBlock := fun e => by have := (Hown.out.lt b e.symm).1; omega
  have hb4 := grown_blk hgrow Hb.out hne
  have hs4 := hgrow.size
  have hB4 : Below b w w4 := (Below.refl b w).grown hgrow (by omega) (fun q hq => by have := (Hown.out.lt q hq).1; omega)
  have hv' : ∀ k, v'.ownBlock = some k → k ≠ b := fun q hq e => by
    subst e
    rcases hat with h | h
    · exact hne (hq.symm.trans h)
    · have := Option.some.inj (hq.symm.trans h); omega
  have Hkeep := Lib.hid (show ∀ (g : Nat) (o : Obj), w.heap[g]? = some o → some g ≠ v.ownBlock → w4.heap[g]? = some o from fun g o ho hc => (hgrow.block g (lt_of_block ho) hc).trans ho)
  have Hown4 := Lib.hid hown'
  have HB4 := Lib.hid hB4
  have HO5 := Lib.hid (heap_set hb4 1 v')
  obtain ⟨pv, cv, hpv⟩ : ∃ p c, v' = .slice p (k + M.length) c := by
    rcases hown'.2 with ⟨rfl, h⟩ | ⟨g, cap, cur, rfl, _⟩
    · exact ⟨none, 0, by rw [h]⟩
    · exact ⟨_, _, rfl⟩
  clear c0 c1 hown' hat hgrow hB4 hne
  obtain ⟨d0, d1⟩ := blk_cells2 hb4
  have fb4 := fun o => free_at hb4 o
  have hbl4 := lt_of_block hb4
  clear hb4
  subst hpv
  go_wp2_with fail
  first | go_end0 | (refine bodyPost_ret (results_none rfl _ _ _) rfl ?_) | (refine bodyPost_end (results_none rfl _ _ _) rfl ?_)
  refine ⟨rfl, ⟨_, HO5.out, row_set1 Hown4.out hv'⟩, HB4.out.setCell (p := ⟨b, 1, none⟩) (Nat.le_refl _) _, ?_, fun g o ho h1 hc => set1_blk h1 (Hkeep.out g o ho hc)⟩
  simp [World.setCell]
  omega
set_option maxRecDepth 100000 in
set_option maxHeartbeats 1600000 in
theorem ifinished (n : Int) (v : Value) (p : Option Addr) (k c : Nat) (w : World) (hv : v = .slice p k c) : Calls Try.prog 56 #[.agg #[.int .i64 n, v]] w fun e w' => e = .returned (.agg #[.int .i64 n, v]) ∧ Below w.heap.size w w' := by
  subst hv
  have Hb0 := Lib.hid (show Below w.heap.size w ((w.alloc (.cells #[.int .i64 n, .slice p k c] 73)).alloc (.cells #[.int .i64 0, .slice none 0 0] 26)) by go_grown)
  have HX := Lib.hid (alloc_blk (.cells #[.int .i64 0, .slice none 0 0] 26) (heap_alloc_new w (.cells #[.int .i64 n, .slice p k c] 73)))
  have HR := Lib.hid (show ((w.alloc (.cells #[.int .i64 n, .slice p k c] 73)).alloc (.cells #[.int .i64 0, .slice none 0 0] 26)).heap[w.heap.size + 1]? = some (.cells #[.int .i64 0, .slice none 0 0] 26 (0, 0)) by
    simpa using heap_alloc_new (w.alloc (.cells #[.int .i64 n, .slice p k c] 73)) (.cells #[.int .i64 0, .slice none 0 0] 26))
  obtain ⟨c0, c1⟩ := blk_cells2 HX.out
  obtain ⟨r0, r1⟩ := blk_cells2 HR.out
  have fR := fun o => free_at HR.out o
  have hxl := lt_of_block HX.out
  have hrl := lt_of_block HR.out
  go_enter Try.func56, Try.ntmps56
  go_wp2_with fail
  obtain ⟨k0, k1⟩ := blk_cells2 (set2_at (u0 := .int .i64 n) (u1 := .slice p k c) HR.out)
  refine bodyPost_ret (v := .agg #[.int .i64 n, .slice p k c]) (by simp only [results, Try.results56]; simp [go_sem]) rfl ⟨rfl, ?_⟩
  have := Hb0.out
  go_grown
end Go.Proofs.Ytckfklpgnneodaa
