/- B17: several of our texts in one: TcC ApB ApC ApD TcD TcT. -/
import Derived.Test.YtbnkanlebjpkfaaGreatDoorB12
import Derived.Test.YtbnkanlebjpkfaaGreatDoorB14
import Derived.Test.YtbnkanlebjpkfaaGreatDoorB13
namespace Go.Proofs.YtbnkanlebjpkfaaGreatDoor
open Go.Lib
/-- The text of a circuit. -/
def word7 : List UInt8 := [113, 117, 98, 105, 116, 115]
def hdT (n : Int) : List UInt8 := word7 ++ [itoa n].flatMap fun m => 32 :: m
def cT (n : Int) (L : List Gt) : List UInt8 := hdT n ++ (L.map gtT).flatMap fun m => 10 :: m
def cTxt (n : Int) (L : List Gt) : ByteArray := if ciB n L then toB (cT n L) else toB []
theorem hdT_no10 (n : Int) : (10 : UInt8) ∉ hdT n := by
  unfold hdT
  simp only [List.flatMap_cons, List.flatMap_nil, List.append_nil, List.mem_append, List.mem_cons]
  rintro (h | h | h)
  · exact absurd h (by decide)
  · exact absurd h (by decide)
  · exact num_no2 (itoa_num n) (.inr rfl) h
theorem hdT_pcs (n : Int) : pcs 32 (toB (hdT n)) = [toB word7, toB (itoa n)] :=
  pcs_flat (by decide) fun m hm => by rw [List.mem_singleton.1 hm]; exact num_no2 (itoa_num n) (.inl rfl)
theorem cT_pcs {n : Int} {L : List Gt} (h : ∀ g ∈ L, gtB g n = true) : pcs 10 (toB (cT n L)) = toB (hdT n) :: L.map fun g => toB (gtT g) := by
  unfold cT
  rw [pcs_flat (hdT_no10 n) (fun m hm => by obtain ⟨g, hg, rfl⟩ := List.mem_map.1 hm; exact gtT_no10 (gtB_parts (h g hg)).2.1), List.map_map]
  rfl
theorem map_gtT_inj : ∀ {L M : List Gt}, (∀ g ∈ L, gtB g 4 = true) → (∀ g ∈ M, gtB g 4 = true) → L.map (fun g => toB (gtT g)) = M.map (fun g => toB (gtT g)) → L = M
  | [], [], _, _, _ => rfl
  | [], _ :: _, _, _, h => by cases h
  | _ :: _, [], _, _, h => by cases h
  | x :: L, y :: M, hL, hM, h => by
    simp only [List.map_cons, List.cons.injEq] at h
    rw [gtT_inj (hL x (List.mem_cons_self ..)) (hM y (List.mem_cons_self ..)) (toB_inj h.1), map_gtT_inj (fun g hg => hL g (List.mem_cons_of_mem _ hg)) (fun g hg => hM g (List.mem_cons_of_mem _ hg)) h.2]
theorem cT_inj {n m : Int} {L M : List Gt} (h : ciB n L = true) (k : ciB m M = true) (e : cT n L = cT m M) : n = m ∧ L = M := by
  obtain ⟨h1, h2, -⟩ := ciB_parts h
  obtain ⟨k1, k2, -⟩ := ciB_parts k
  have e1 := cT_pcs h1
  rw [e, cT_pcs k1] at e1
  injection e1 with e2 e3
  have e4 := hdT_pcs n
  rw [← e2, hdT_pcs m] at e4
  injection e4 with _ e5
  injection e5 with e6 _
  exact ⟨(itoa_inj64 (toB_inj e6) (by omega) (by omega) (by omega) (by omega)).symm, map_gtT_inj (fun g hg => gtB_mono (h1 g hg)) (fun g hg => gtB_mono (k1 g hg)) e3.symm⟩
/-- ParseCircuit: whether there is such a circuit, and the circuit. -/
noncomputable def pcB (s : ByteArray) : Bool := @decide (∃ c : Int × List Gt, ciB c.1 c.2 = true ∧ toB (cT c.1 c.2) = s) (Classical.propDecidable _)
noncomputable def pcV (s : ByteArray) : Int × List Gt := by classical exact if h : ∃ c : Int × List Gt, ciB c.1 c.2 = true ∧ toB (cT c.1 c.2) = s then h.choose else (0, [])
theorem pc_yes {n : Int} {L : List Gt} {s : ByteArray} (h : ciB n L = true) (e : toB (cT n L) = s) : pcB s = true ∧ pcV s = (n, L) := by
  have hx : ∃ c : Int × List Gt, ciB c.1 c.2 = true ∧ toB (cT c.1 c.2) = s := ⟨(n, L), h, e⟩
  refine ⟨by unfold pcB; exact @decide_eq_true _ (Classical.propDecidable _) hx, ?_⟩
  unfold pcV
  rw [dif_pos hx]
  obtain ⟨i, j⟩ := cT_inj hx.choose_spec.1 h (toB_inj (hx.choose_spec.2.trans e.symm))
  exact Prod.ext i j
theorem pc_no {s : ByteArray} (h : ∀ n L, ciB n L = true → toB (cT n L) ≠ s) : pcB s = false ∧ pcV s = (0, []) := by
  have hx : ¬ ∃ c : Int × List Gt, ciB c.1 c.2 = true ∧ toB (cT c.1 c.2) = s := fun ⟨c, h1, h2⟩ => h c.1 c.2 h1 h2
  exact ⟨by unfold pcB; exact @decide_eq_false _ (Classical.propDecidable _) hx, by unfold pcV; rw [dif_neg hx]⟩
end Go.Proofs.YtbnkanlebjpkfaaGreatDoor
namespace Go.Proofs.YtbnkanlebjpkfaaGreatDoor
open Go.RowKit
def H12 (w : World) (gv ov : Nat) (x : Dw) (gs os p : Nat) (y : Dw) (w' : World) : Prop := w'.cell? ⟨gv, ov, none⟩ = some (.int .i64 x.n.a) ∧ w'.cell? ⟨gv, ov + 1, none⟩ = some (.int .i64 x.n.b) ∧ w'.cell? ⟨gv, ov + 2, none⟩ = some (.int .i64 x.n.c) ∧ w'.cell? ⟨gv, ov + 3, none⟩ = some (.int .i64 x.n.d) ∧ w'.cell? ⟨gv, ov + 4, none⟩ = some (.int .i64 x.e) ∧ w'.cell? ⟨gs, os, none⟩ = some (.int .i64 (p : Int)) ∧ w'.cell? ⟨gs, os + 1, none⟩ = some (.int .i64 y.n.a) ∧ w'.cell? ⟨gs, os + 2, none⟩ = some (.int .i64 y.n.b) ∧ w'.cell? ⟨gs, os + 3, none⟩ = some (.int .i64 y.n.c) ∧ w'.cell? ⟨gs, os + 4, none⟩ = some (.int .i64 y.n.d) ∧ w'.cell? ⟨gs, os + 5, none⟩ = some (.int .i64 y.e) ∧ gv < w'.heap.size ∧ gs < w'.heap.size ∧ Below w.heap.size w w'
theorem H12.drew {w w1 : World} {gv ov : Nat} {x : Dw} {gs os p : Nat} {y : Dw} (h : H12 w gv ov x gs os p y w1) : H12 w gv ov x gs os p y w1.drew :=
  let ⟨c0, c1, c2, c3, c4, c5, c6, c7, c8, c9, c10, z0, z1, l⟩ := h; ⟨c0, c1, c2, c3, c4, c5, c6, c7, c8, c9, c10, z0, z1, l.drew⟩
theorem H12.below {w w1 w2 : World} {gv ov : Nat} {x : Dw} {gs os p : Nat} {y : Dw} (h : H12 w gv ov x gs os p y w1) (hb : Below w1.heap.size w1 w2) : H12 w gv ov x gs os p y w2 :=
  let ⟨c0, c1, c2, c3, c4, c5, c6, c7, c8, c9, c10, z0, z1, l⟩ := h
  ⟨cell_below c0 hb z0, cell_below c1 hb z0, cell_below c2 hb z0, cell_below c3 hb z0, cell_below c4 hb z0, cell_below c5 hb z1, cell_below c6 hb z1, cell_below c7 hb z1, cell_below c8 hb z1, cell_below c9 hb z1, cell_below c10 hb z1, Nat.lt_of_lt_of_le z0 hb.size, Nat.lt_of_lt_of_le z1 hb.size, below_up l hb l.size⟩
theorem H12.alloc {w w1 : World} {gv ov : Nat} {x : Dw} {gs os p : Nat} {y : Dw} (h : H12 w gv ov x gs os p y w1) (o : Obj) : H12 w gv ov x gs os p y (w1.alloc o) := h.below ((Below.refl _ _).alloc (Nat.le_refl _) o)
theorem H12.low {w w1 : World} {gv ov : Nat} {x : Dw} {gs os p : Nat} {y : Dw} (h : H12 w gv ov x gs os p y w1) : Below w.heap.size w w1 := let ⟨_, _, _, _, _, _, _, _, _, _, _, _, _, l⟩ := h; l
def H13 (w : World) (go po : Nat) (u : Dw) (gs os p : Nat) (q : Nat) (z : Dw) (w' : World) : Prop := w'.cell? ⟨go, po, none⟩ = some (.int .i64 u.n.a) ∧ w'.cell? ⟨go, po + 1, none⟩ = some (.int .i64 u.n.b) ∧ w'.cell? ⟨go, po + 2, none⟩ = some (.int .i64 u.n.c) ∧ w'.cell? ⟨go, po + 3, none⟩ = some (.int .i64 u.n.d) ∧ w'.cell? ⟨go, po + 4, none⟩ = some (.int .i64 u.e) ∧ w'.cell? ⟨gs, os, none⟩ = some (.int .i64 (p : Int)) ∧ w'.cell? ⟨q, 0, none⟩ = some (.int .i64 z.n.a) ∧ w'.cell? ⟨q, 1, none⟩ = some (.int .i64 z.n.b) ∧ w'.cell? ⟨q, 2, none⟩ = some (.int .i64 z.n.c) ∧ w'.cell? ⟨q, 3, none⟩ = some (.int .i64 z.n.d) ∧ w'.cell? ⟨q, 4, none⟩ = some (.int .i64 z.e) ∧ go < w'.heap.size ∧ gs < w'.heap.size ∧ q < w'.heap.size ∧ Below w.heap.size w w'
theorem H13.drew {w w1 : World} {go po : Nat} {u : Dw} {gs os p : Nat} {q : Nat} {z : Dw} (h : H13 w go po u gs os p q z w1) : H13 w go po u gs os p q z w1.drew :=
  let ⟨c0, c1, c2, c3, c4, c5, c6, c7, c8, c9, c10, z0, z1, z2, l⟩ := h; ⟨c0, c1, c2, c3, c4, c5, c6, c7, c8, c9, c10, z0, z1, z2, l.drew⟩
theorem H13.below {w w1 w2 : World} {go po : Nat} {u : Dw} {gs os p : Nat} {q : Nat} {z : Dw} (h : H13 w go po u gs os p q z w1) (hb : Below w1.heap.size w1 w2) : H13 w go po u gs os p q z w2 :=
  let ⟨c0, c1, c2, c3, c4, c5, c6, c7, c8, c9, c10, z0, z1, z2, l⟩ := h
  ⟨cell_below c0 hb z0, cell_below c1 hb z0, cell_below c2 hb z0, cell_below c3 hb z0, cell_below c4 hb z0, cell_below c5 hb z1, cell_below c6 hb z2, cell_below c7 hb z2, cell_below c8 hb z2, cell_below c9 hb z2, cell_below c10 hb z2, Nat.lt_of_lt_of_le z0 hb.size, Nat.lt_of_lt_of_le z1 hb.size, Nat.lt_of_lt_of_le z2 hb.size, below_up l hb l.size⟩
theorem H13.alloc {w w1 : World} {go po : Nat} {u : Dw} {gs os p : Nat} {q : Nat} {z : Dw} (h : H13 w go po u gs os p q z w1) (o : Obj) : H13 w go po u gs os p q z (w1.alloc o) := h.below ((Below.refl _ _).alloc (Nat.le_refl _) o)
theorem H13.low {w w1 : World} {go po : Nat} {u : Dw} {gs os p : Nat} {q : Nat} {z : Dw} (h : H13 w go po u gs os p q z w1) : Below w.heap.size w w1 := let ⟨_, _, _, _, _, _, _, _, _, _, _, _, _, _, l⟩ := h; l
attribute [local irreducible] World.cell?
end Go.Proofs.YtbnkanlebjpkfaaGreatDoor
namespace Go.Proofs.YtbnkanlebjpkfaaGreatDoor
open Go.RowKit
attribute [local irreducible] World.cell?
end Go.Proofs.YtbnkanlebjpkfaaGreatDoor
namespace Go.Proofs.YtbnkanlebjpkfaaGreatDoor
open Go.RowKit
theorem flat_plain : ∀ l : List Dw, ∀ u ∈ flat l, u.oneCell' = true
  | [], u, h => by simp [flat] at h
  | x :: l, u, h => by
    rw [flat, List.mem_append] at h
    rcases h with h | h
    · exact fl_plain x u h
    · exact flat_plain l u h
attribute [local irreducible] World.cell?
end Go.Proofs.YtbnkanlebjpkfaaGreatDoor
namespace Go.Proofs.YtbnkanlebjpkfaaGreatDoor
theorem pcV_both (s : ByteArray) : (pcV s).2.length ≤ 60 ∧ 0 ≤ (pcV s).1 ∧ (pcV s).1 ≤ 4 := by
  by_cases hx : ∃ c : Int × List Gt, ciB c.1 c.2 = true ∧ toB (cT c.1 c.2) = s
  · obtain ⟨⟨n, L⟩, h, e⟩ := hx
    rw [(pc_yes h e).2]
    unfold ciB at h
    simp only [Bool.and_eq_true, decide_eq_true_eq] at h
    exact ⟨h.2.2, by omega, by omega⟩
  · rw [(pc_no fun n L h e => hx ⟨(n, L), h, e⟩).2]
    exact ⟨Nat.zero_le _, Int.le_refl _, (by decide : (0 : Int) ≤ 4)⟩
theorem pcV_len (s : ByteArray) : (pcV s).2.length ≤ 60 := (pcV_both s).1
theorem pcV_n (s : ByteArray) : 0 ≤ (pcV s).1 ∧ (pcV s).1 ≤ 4 := (pcV_both s).2
end Go.Proofs.YtbnkanlebjpkfaaGreatDoor
namespace Go.Proofs.YtbnkanlebjpkfaaGreatDoor
open Go.Lib
theorem cT_neT (n : Int) (L : List Gt) : cT n L ≠ [] := by
  unfold cT hdT word7
  simp
theorem pc_fmt (n : Int) (L : List Gt) : pcB (cTxt n L) = ciB n L ∧ (ciB n L = true → pcV (cTxt n L) = (n, L)) := by
  unfold cTxt
  cases h : ciB n L with
  | true =>
    rw [if_pos rfl]
    obtain ⟨h1, h2⟩ := pc_yes h rfl
    exact ⟨h1, fun _ => h2⟩
  | false =>
    rw [if_neg (by decide)]
    exact ⟨(pc_no fun m M _ e => cT_neT m M (toB_inj e)).1, fun h => by cases h⟩
theorem pc_back {t : ByteArray} (h : pcB t = true) : cTxt (pcV t).1 (pcV t).2 = t := by
  by_cases hx : ∃ c : Int × List Gt, ciB c.1 c.2 = true ∧ toB (cT c.1 c.2) = t
  · obtain ⟨⟨n, L⟩, h1, h2⟩ := hx
    rw [(pc_yes h1 h2).2]
    unfold cTxt
    rw [if_pos h1]
    exact h2
  · rw [(pc_no fun n L h1 h2 => hx ⟨(n, L), h1, h2⟩).1] at h
    cases h
end Go.Proofs.YtbnkanlebjpkfaaGreatDoor
