/- B20: several of our texts in one: CiKb TcE. -/
import Derived.Test.YtbnkanlebjpkfaaGreatDoorApS
import Derived.Test.YtbnkanlebjpkfaaGreatDoorB06
import Derived.Test.YtbnkanlebjpkfaaGreatDoorB18
import Derived.Test.YtbnkanlebjpkfaaGreatDoorB19
import Derived.Laws.AppendOwn
import Derived.Test.YtbnkanlebjpkfaaGreatDoorB21
import Derived.Test.YtbnkanlebjpkfaaGreatDoorCiB
import Derived.Test.YtbnkanlebjpkfaaGreatDoorB09
namespace Go.Proofs.YtbnkanlebjpkfaaGreatDoor
open Go.RowKit
theorem wpList_append_sl {α : Type} {E : Enc α} {P : Program} {w : World} {ops : Array Oper} {rest : List Oper} {o : Oper} {a : Act} {Q : Exit → Act → World → Prop} (hgd : o.guard = none) (s x : Operand) (t : TypeId)
    (ho : o.op = .call { callee := .builtin .append, args := #[s, x], argTypes := #[t, t] })
    (base : Nat) (i : TypeInfo) (z : Value) (bytes : Nat) (ht : P.underlying t = some (.slice E.ty)) (hi : P.info? E.ty = some i) (hz : i.zero = some z)
    (hsize : i.size = E.n) (hby : i.bytes = bytes) (hzs : z.cells.size = E.n) (hsz : 0 < E.n)
    (v : Value) (n : Nat) (xs : List Value) (hs : a.eval s = v) (hown : w.ownsRow base E.ty E.n v n xs) (B : Nat) (X : Value) (M : List α) (hx : a.eval x = X) (hX : E.Sl w B X M)
    (h63 : n + M.length ≤ maxLen) (hbytes : (n + M.length) * bytes ≤ 140737488355328) (hbase : base ≤ w.heap.size)
    (h : ∀ v' w', w'.ownsRow base E.ty E.n v' (n + M.length) (xs ++ E.flat M) → w.grownBy w' v.ownBlock → (v'.ownBlock = v.ownBlock ∨ v'.ownBlock = some w.heap.size) → wpList P ops Q rest (a.put o.dst v') w') : wpList P ops Q (o :: rest) a w := by
  refine wpList_plain hgd fun _ hK => ?_
  obtain ⟨v', w', hr, h2, h3, h4⟩ := run_append_sl (P := P) w base t o.type i z bytes ht hi hz hsize hby hzs hsz v n xs hown B X M hX h63 hbytes hbase
  unfold Oper.wp execOp
  simp only [ho, resolve, invoke, builtin, Sem.run_bind, Sem.run_pure, Result.andThen_ok, List.map_toArray, List.map_cons, List.map_nil, hs, hx, hr]
  exact hK _ _ (h v' w' h2 h3 h4)
attribute [local irreducible] World.cell?
set_option maxRecDepth 100000 in
set_option maxHeartbeats 3200000 in
theorem iadd (C b : Nat) (n : Int) (v u : Value) (k : Nat) (xs : List Value) (M : List Gt) (w : World) (hb : w.heap[b]? = some (.cells #[.int .i64 n, v] 49 (0, 0))) (hown : w.ownsRow (b + 1) 40 4 v k xs) (hu : gtE.Sl w C u M) (hk : k + M.length ≤ 1048576) :
    Calls Tryz.prog 23 #[.pointer (some ⟨b, 1, none⟩), u] w fun e w' => e = .returned (.tuple #[]) ∧ (∃ v', w'.heap[b]? = some (.cells #[.int .i64 n, v'] 49 (0, 0)) ∧ w'.ownsRow (b + 1) 40 4 v' (k + M.length) (xs ++ gtE.flat M)) ∧ Below b w w' ∧ w.heap.size ≤ w'.heap.size ∧ (∀ (g : Nat) (o : Obj), w.heap[g]? = some o → g ≠ b → some g ≠ v.ownBlock → w'.heap[g]? = some o) := by
  obtain ⟨i0, hi, hz0, hz1, hz2⟩ := info_parts infoG3
  obtain ⟨c0, c1⟩ := blk_cells2 hb
  have hbl := lt_of_block hb
  have fb := fun o => free_at hb o
  have Hb := Lib.hid hb
  have Hown := Lib.hid hown
  have Hu := Lib.hid hu
  obtain ⟨pa, ca, hpa, -, -⟩ := id hu
  clear hb hown hu
  subst hpa
  go_enter Tryz.func23, Tryz.ntmps23
  go_wp2_with (first
    | (at_builtin; refine wpList_append_sl (E := gtE) rfl _ _ 24 rfl (b + 1) i0 (.agg #[.int .i64 0, .int .i64 0, .int .i64 0, .int .i64 0]) 32 Tryz.underlying24 hi hz0 hz1 hz2 rfl (by decide) v k xs rfl Hown.out C _ M rfl Hu.out ?d3 ?d4 ?d5 ?_))
  case d3 => unfold maxLen; omega
  case d4 => omega
  case d5 => omega
  intro v' w4 hown' hgrow hat
  have hne : some b ≠ v.ownBlock := fun e => by have := (Hown.out.lt b e.symm).1; omega
  have hb4 := grown_blk hgrow Hb.out hne
  have hs4 := hgrow.size
  have hB4 : Below b w w4 := (Below.refl b w).grown hgrow (by omega) (fun q hq => by have := (Hown.out.lt q hq).1; omega)
  have hv' : ∀ k, v'.ownBlock = some k → k ≠ b := fun q hq e => by
    subst e
    rcases hat with h | h
    · exact hne (hq.symm.trans h)
    · have := Option.some.inj (hq.symm.trans h); omega
  have Hkeep := Lib.hid (show ∀ (g : Nat) (o : Obj), w.heap[g]? = some o → some g ≠ v.ownBlock → w4.heap[g]? = some o from fun g o ho hc => (hgrow.block g (lt_of_block ho) hc).trans ho)
  have Hown4 := Lib.hid hown'
  have HB4 := Lib.hid hB4
  have HO5 := Lib.hid (heap_set hb4 1 v')
  obtain ⟨pv, cv, hpv⟩ : ∃ p c, v' = .slice p (k + M.length) c := by
    rcases hown'.2 with ⟨rfl, h⟩ | ⟨g, cap, cur, rfl, _⟩
    · exact ⟨none, 0, by rw [h]⟩
    · exact ⟨_, _, rfl⟩
  clear c0 c1 hown' hat hgrow hB4 hne
  obtain ⟨d0, d1⟩ := blk_cells2 hb4
  have fb4 := fun o => free_at hb4 o
  have hbl4 := lt_of_block hb4
  clear hb4
  subst hpv
  go_wp2_with fail
  first | go_end0 | (refine bodyPost_ret (results_none rfl _ _ _) rfl ?_) | (refine bodyPost_end (results_none rfl _ _ _) rfl ?_)
  refine ⟨rfl, ⟨_, HO5.out, row_set1 Hown4.out hv'⟩, HB4.out.setCell (p := ⟨b, 1, none⟩) (Nat.le_refl _) _, ?_, fun g o ho h1 hc => set1_blk h1 (Hkeep.out g o ho hc)⟩
  simp [World.setCell]
  omega
set_option maxRecDepth 100000 in
set_option maxHeartbeats 1600000 in
theorem ifinished (n : Int) (v : Value) (p : Option Addr) (k c : Nat) (w : World) (hv : v = .slice p k c) : Calls Tryz.prog 24 #[.agg #[.int .i64 n, v]] w fun e w' => e = .returned (.agg #[.int .i64 n, v]) ∧ Below w.heap.size w w' := by
  subst hv
  have Hb0 := Lib.hid (show Below w.heap.size w ((w.alloc (.cells #[.int .i64 n, .slice p k c] 49)).alloc (.cells #[.int .i64 0, .slice none 0 0] 26)) by go_grown)
  have HX := Lib.hid (alloc_blk (.cells #[.int .i64 0, .slice none 0 0] 26) (heap_alloc_new w (.cells #[.int .i64 n, .slice p k c] 49)))
  have HR := Lib.hid (show ((w.alloc (.cells #[.int .i64 n, .slice p k c] 49)).alloc (.cells #[.int .i64 0, .slice none 0 0] 26)).heap[w.heap.size + 1]? = some (.cells #[.int .i64 0, .slice none 0 0] 26 (0, 0)) by
    simpa using heap_alloc_new (w.alloc (.cells #[.int .i64 n, .slice p k c] 49)) (.cells #[.int .i64 0, .slice none 0 0] 26))
  obtain ⟨c0, c1⟩ := blk_cells2 HX.out
  obtain ⟨r0, r1⟩ := blk_cells2 HR.out
  have fR := fun o => free_at HR.out o
  have hxl := lt_of_block HX.out
  have hrl := lt_of_block HR.out
  go_enter Tryz.func24, Tryz.ntmps24
  go_wp2_with fail
  obtain ⟨k0, k1⟩ := blk_cells2 (set2_at (u0 := .int .i64 n) (u1 := .slice p k c) HR.out)
  refine bodyPost_ret (v := .agg #[.int .i64 n, .slice p k c]) (by simp only [results, Tryz.results24]; simp [go_sem]) rfl ⟨rfl, ?_⟩
  have := Hb0.out
  go_grown
end Go.Proofs.YtbnkanlebjpkfaaGreatDoor
namespace Go.Proofs.YtbnkanlebjpkfaaGreatDoor
open Go.RowKit Go.Lib
theorem itoa_oneE : ∀ q : Fin 4, (itoa ((q.val : Nat) : Int)).length = 1 := by decide +kernel
theorem nm_lenE : ∀ k : Fin 13, (nm ((k.val : Nat) : Int)).length ≤ 4 := by decide +kernel
theorem gtT_smallE {g : Gt} (h : gtB g 4 = true) : (gtT g).length ≤ 10 := by
  obtain ⟨-, hk, ha, hb, hc⟩ := gtB_parts h
  have hn := nm_lenE ⟨g.k.toNat, by omega⟩
  rw [show ((g.k.toNat : Nat) : Int) = g.k by omega] at hn
  have one : ∀ q : Int, 0 ≤ q ∧ q < 4 → (itoa q).length = 1 := fun q hq => by
    have := itoa_oneE ⟨q.toNat, by omega⟩
    rwa [show ((q.toNat : Nat) : Int) = q by omega] at this
  have hq := gqs_small h
  have h3 : (gqs g).length ≤ 3 := by rw [gqs_len]; exact ar_le _
  have key : ∀ l : List Int, (∀ q ∈ l, 0 ≤ q ∧ q < 4) → ((l.map itoa).flatMap fun m => 32 :: m).length = 2 * l.length := by
    intro l
    induction l with
    | nil => intro _; rfl
    | cons q l ih =>
      intro hl
      rw [List.map_cons, List.flatMap_cons, List.length_append, ih fun x hx => hl x (List.mem_cons_of_mem _ hx), List.length_cons, one q (hl q (List.mem_cons_self ..)), List.length_cons]
      omega
  unfold gtT
  rw [List.length_append, key _ hq]
  omega
theorem cTxt_size (n : Int) (L : List Gt) : (cTxt n L).size ≤ 1000 := by
  unfold cTxt
  split
  · rename_i h
    obtain ⟨h1, h2, -⟩ := ciB_parts h
    have h60 : L.length ≤ 60 := by
      unfold ciB at h
      simp only [Bool.and_eq_true, decide_eq_true_eq] at h
      exact h.2.2
    have hh := hdT_len (n := n) (by omega)
    have key : ∀ l : List Gt, (∀ g ∈ l, gtB g 4 = true) → ((l.map gtT).flatMap fun m => 10 :: m).length ≤ 11 * l.length := by
      intro l
      induction l with
      | nil => intro _; exact Nat.le_refl _
      | cons g l ih =>
        intro hl
        have h5 := ih fun x hx => hl x (List.mem_cons_of_mem _ hx)
        have h6 := gtT_smallE (hl g (List.mem_cons_self ..))
        rw [List.map_cons, List.flatMap_cons, List.length_append, List.length_cons, List.length_cons]
        omega
    have h7 := key L fun g hg => gtB_mono (h1 g hg)
    rw [toB_size]
    unfold cT
    rw [List.length_append]
    omega
  · decide
def clist : List ByteArray := [⟨#[32]⟩, ⟨#[10]⟩, ⟨#[48]⟩, ⟨#[120, 32, 48]⟩, ⟨#[10, 104, 32, 48]⟩]
theorem clist_at (w : World) : ListAt (w.alloc (.cells #[.string ⟨#[32]⟩, .string ⟨#[10]⟩, .string ⟨#[48]⟩, .string ⟨#[120, 32, 48]⟩, .string ⟨#[10, 104, 32, 48]⟩] 9)) w.heap.size 5 (fun j => .string (clist.getD j ByteArray.empty)) := by
  refine zlist_at (heap_alloc_new _ _) 5 _ ?_
  intro j hj
  rcases (show j = 0 ∨ j = 1 ∨ j = 2 ∨ j = 3 ∨ j = 4 by omega) with rfl | rfl | rfl | rfl | rfl <;> rfl
theorem clist_small : ∀ j, j < 5 → (clist.getD j ByteArray.empty).size ≤ 10 := by
  intro j hj
  rcases (show j = 0 ∨ j = 1 ∨ j = 2 ∨ j = 3 ∨ j = 4 by omega) with rfl | rfl | rfl | rfl | rfl <;> decide
attribute [local irreducible] World.cell?
set_option maxRecDepth 100000 in
set_option maxHeartbeats 3200000 in
theorem drawFmtC (a0 : Option Addr) (len cap : Nat) (w : World) (hcode : CodeAt w w.heap.size a0 len) :
    Calls Tryz.prog 5 #[.slice a0 len cap] w fun e w' => (∃ n v l, e = .returned (.agg #[.int .i64 n, v]) ∧ CiD 8 n l ∧ gtE.Sl w' w.heap.size v l) ∧ Below w.heap.size w w' := by
  have Hcode := Lib.hid (show CodeAt (w.alloc (.cells #[.int .i64 0, .slice none 0 0] 26)) (w.alloc (.cells #[.int .i64 0, .slice none 0 0] 26)).heap.size a0 len from (hcode.below ((Below.refl _ _).alloc (Nat.le_refl _) (.cells #[.int .i64 0, .slice none 0 0] 26))).mono (by simp))
  have Hr0 := Lib.hid (heap_alloc_new w (.cells #[.int .i64 0, .slice none 0 0] 26))
  clear hcode
  go_enter Tryz.func5, Tryz.ntmps5
  go_wp2_with fail
  refine (new_any a0 len cap _ Hcode.out).mono ?_
  rintro e w1 ⟨rfl, hc1, hb1, hz1⟩
  have hz0 : (w.alloc (.cells #[.int .i64 0, .slice none 0 0] 26)).heap.size = w.heap.size + 1 := by simp
  rw [hz0] at hc1 hz1
  have Hr1 := Lib.hid (below_blk hb1 (lt_of_block Hr0.out) Hr0.out)
  have Hc1 := Lib.hid hc1
  have Hb1 := Lib.hid (below_up (B := w.heap.size) (w := w) (by go_grown) hb1 (by simp))
  have hs1 := hb1.size
  rw [hz0] at hs1
  clear hc1 hb1
  have HG := Lib.hid (bentC (w.heap.size + 1) 8 w1 Hc1.out (by omega) (by omega))
  go_wp2_with fail
  refine HG.out.mono ?_
  rintro e w2 ⟨⟨n, v, l, rfl, hd, hsl⟩, hc2, ho2⟩
  obtain ⟨p, c, rfl, -, -⟩ := id hsl
  have hs2 := ho2.size
  have Hr2 := Lib.hid (own_blk ho2 (by omega) Hr1.out)
  have Hb2 := Lib.hid (below_own Hb1.out ho2 (by omega) (by omega))
  have Hd := Lib.hid hd
  have Hsl := Lib.hid hsl
  clear hc2 ho2 Hc1 Hb1 Hr1 HG hd hsl
  obtain ⟨r0, r1⟩ := blk_cells2 Hr2.out
  have fR := fun o => free_at Hr2.out o
  have hrl := lt_of_block Hr2.out
  go_wp2_with fail
  obtain ⟨k0, k1⟩ := blk_cells2 (set2_at (u0 := .int .i64 n) (u1 := .slice p l.length c) Hr2.out)
  refine bodyPost_ret (v := .agg #[.int .i64 n, .slice p l.length c]) (by simp only [results, Tryz.results5]; simp [go_sem, k0, k1]) rfl ⟨⟨n, _, l, rfl, Hd.out, ?_⟩, ?_⟩
  · exact (sl_set1 (sl_set1 Hsl.out (by omega)) (by omega)).mono (by omega)
  · have := Hb2.out
    go_grown
set_option maxRecDepth 100000 in
set_option maxHeartbeats 3200000 in
theorem drawParC (a0 : Option Addr) (len cap : Nat) (w : World) (hcode : CodeAt w w.heap.size a0 len) :
    Calls Tryz.prog 8 #[.slice a0 len cap] w fun e w' => TRet e ∧ Below w.heap.size w w' := by
  have Hcode := Lib.hid hcode
  clear hcode
  go_enter Tryz.func8, Tryz.ntmps8
  go_wp2_with fail
  refine (new_any a0 len cap _ Hcode.out).mono ?_
  rintro e w1 ⟨rfl, hc1, hb1, hB1⟩
  have hz1 : w.heap.size < w1.heap.size := by simpa using hB1
  have Hc1 := Lib.hid hc1
  have Hb1 := Lib.hid hb1
  clear hc1 hb1 hB1
  have HG := Lib.hid (bentC w.heap.size 8 w1 Hc1.out (by omega) (by omega))
  go_wp2_with fail
  refine HG.out.mono ?_
  rintro e w2 ⟨⟨n, v, l, rfl, hd, hsl⟩, hc2, ho2⟩
  have hs2 := ho2.size
  have Hb2 := Lib.hid (below_own Hb1.out ho2 (by omega) Hb1.out.size)
  have hll : l.length ≤ 1048576 := by have := hd.2.1; omega
  have Hf := Lib.hid (sfmtC _ n v l w2 hsl hll)
  have Hc2 := Lib.hid hc2
  have hz2 : w.heap.size < w2.heap.size := by omega
  obtain ⟨p, c, rfl, -, -⟩ := hsl
  have hcs := cTxt_size n l
  clear hc2 ho2 Hc1 Hb1 HG hd
  generalize cTxt n l = T at *
  go_wp2_with fail
  refine (Hf.out).mono ?_
  rintro e w3 ⟨rfl, hb3⟩
  have hs3 := hb3.size
  have hc3 := Hc2.out.below hb3 hz2
  have Hb3 := Lib.hid ((below_nx Hb2.out hb3).alloc (below_nx Hb2.out hb3).size (.cells #[.string ⟨#[32]⟩, .string ⟨#[10]⟩, .string ⟨#[48]⟩, .string ⟨#[120, 32, 48]⟩, .string ⟨#[10, 104, 32, 48]⟩] 9))
  have Hc3 := Lib.hid (hc3.own (own_alloc (own_refl w3.heap.size w3) (.cells #[.string ⟨#[32]⟩, .string ⟨#[10]⟩, .string ⟨#[48]⟩, .string ⟨#[120, 32, 48]⟩, .string ⟨#[10, 104, 32, 48]⟩] 9)) (by omega))
  have hB3 : w.heap.size < (w3.alloc (.cells #[.string ⟨#[32]⟩, .string ⟨#[10]⟩, .string ⟨#[48]⟩, .string ⟨#[120, 32, 48]⟩, .string ⟨#[10, 104, 32, 48]⟩] 9)).heap.size := by simp; omega
  have Zl3 := Lib.hid (clist_at w3)
  have hm3 : w3.heap.size ≠ w.heap.size := by omega
  clear hb3 hc3 Hc2 Hf
  go_wp2_with fail
  refine (turned_any _ w3.heap.size 5 _ _ T _ Hc3.out hB3 Zl3.out hm3 (by omega) (by omega) clist_small hcs).mono ?_
  rintro e w4 ⟨⟨t, rfl, ht⟩, hc4, ho4⟩
  have Hb4 := Lib.hid (below_own Hb3.out ho4 (by omega) Hb3.out.size)
  clear ho4 hc4
  go_wp2_with fail
  go_ret
  exact ⟨tret t ht, Hb4.out⟩
end Go.Proofs.YtbnkanlebjpkfaaGreatDoor
