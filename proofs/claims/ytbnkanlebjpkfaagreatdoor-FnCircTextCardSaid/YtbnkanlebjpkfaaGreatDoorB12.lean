/- B12: several of our texts in one: TcP GtN GtK CiKy GsL GsO. -/
import Derived.Test.YtbnkanlebjpkfaaGreatDoorB04
import Derived.Test.YtbnkanlebjpkfaaGreatDoorB08
import Derived.Test.YtbnkanlebjpkfaaGreatDoorB06
import Derived.Test.YtbnkanlebjpkfaaGreatDoorB01
import Derived.Test.YtbnkanlebjpkfaaGreatDoorGtKd
import Derived.Test.YtbnkanlebjpkfaaGreatDoorB16
import Derived.Test.YtbnkanlebjpkfaaGreatDoorB15
import Derived.Deep.Slices
namespace Go.Proofs.YtbnkanlebjpkfaaGreatDoor
open Go.Lib
/-- A kind's name, as bytes. -/
def nm (k : Int) : List UInt8 := (nmB k).data.toList
theorem toB_nm (k : Int) : toB (nm k) = nmB k := toB_of _
theorem kind12 {k : Int} (h : 1 ≤ k ∧ k ≤ 12) : k = 1 ∨ k = 2 ∨ k = 3 ∨ k = 4 ∨ k = 5 ∨ k = 6 ∨ k = 7 ∨ k = 8 ∨ k = 9 ∨ k = 10 ∨ k = 11 ∨ k = 12 := by omega
theorem nm_plain {k : Int} (h : 1 ≤ k ∧ k ≤ 12) : (32 : UInt8) ∉ nm k ∧ (10 : UInt8) ∉ nm k ∧ (nm k).length ≤ 4 ∧ nm k ≠ [] := by
  rcases kind12 h with rfl | rfl | rfl | rfl | rfl | rfl | rfl | rfl | rfl | rfl | rfl | rfl <;> decide +kernel
/-- GateKind. -/
def gkV (s : ByteArray) : Int := ((List.range 12).find? fun (j : Nat) => decide (nmB ((j : Int) + 1) = s)).elim 0 fun (j : Nat) => (j : Int) + 1
theorem gkV_of {k : Int} (h : 1 ≤ k ∧ k ≤ 12) : gkV (nmB k) = k := by
  rcases kind12 h with rfl | rfl | rfl | rfl | rfl | rfl | rfl | rfl | rfl | rfl | rfl | rfl <;> decide +kernel
theorem nmB_inj {k m : Int} (h : 1 ≤ k ∧ k ≤ 12) (h' : 1 ≤ m ∧ m ≤ 12) (e : nmB k = nmB m) : k = m := by rw [← gkV_of h, ← gkV_of h', e]
theorem gkV_range (s : ByteArray) : gkV s = 0 ∨ (1 ≤ gkV s ∧ gkV s ≤ 12 ∧ nmB (gkV s) = s) := by
  unfold gkV
  cases h : (List.range 12).find? fun (j : Nat) => decide (nmB ((j : Int) + 1) = s) with
  | none => exact .inl rfl
  | some j =>
    have h1 := List.find?_some h
    have h2 := List.mem_range.1 (List.mem_of_find?_eq_some h)
    exact .inr ⟨by show 1 ≤ (j : Int) + 1; omega, by show (j : Int) + 1 ≤ 12; omega, of_decide_eq_true h1⟩
/-- A row of pieces behind a mark each, cut at the marks. -/
theorem pcs_flat {c : UInt8} : ∀ {ls : List (List UInt8)} {l : List UInt8}, c ∉ l → (∀ m ∈ ls, c ∉ m) → pcs c (toB (l ++ ls.flatMap fun m => c :: m)) = toB l :: ls.map toB
  | [], l, h, _ => by simp only [List.flatMap_nil, List.append_nil, List.map_nil]; exact pcs_one h
  | m :: ls, l, h, hs => by
    rw [List.flatMap_cons, List.cons_append, pcs_app h, pcs_flat (hs m (List.mem_cons_self ..)) fun q hq => hs q (List.mem_cons_of_mem _ hq)]
    rfl
/-- The text of a gate. -/
def gtT (g : Gt) : List UInt8 := nm g.k ++ ((gqs g).map itoa).flatMap fun m => 32 :: m
def gtxt (g : Gt) : ByteArray := if gtB g 4 then toB (gtT g) else toB []
theorem num_no2 {l : List UInt8} (h : Num l) {c : UInt8} (hc : c = 32 ∨ c = 10) : c ∉ l := by
  intro hm
  rcases h c hm with h | h
  · rcases hc with rfl | rfl <;> exact absurd h (by decide)
  · rcases hc with rfl | rfl <;> exact absurd h (by decide)
theorem gtT_pcs {g : Gt} (hk : 1 ≤ g.k ∧ g.k ≤ 12) : pcs 32 (toB (gtT g)) = nmB g.k :: (gqs g).map fun q => toB (itoa q) := by
  unfold gtT
  rw [pcs_flat (nm_plain hk).1 (fun m hm => by obtain ⟨q, -, rfl⟩ := List.mem_map.1 hm; exact num_no2 (itoa_num q) (.inl rfl)), toB_nm, List.map_map]
  rfl
theorem gtT_no10 {g : Gt} (hk : 1 ≤ g.k ∧ g.k ≤ 12) : (10 : UInt8) ∉ gtT g := by
  unfold gtT
  rw [List.mem_append, List.mem_flatMap]
  rintro (h | ⟨m, hm, h⟩)
  · exact (nm_plain hk).2.1 h
  · obtain ⟨q, -, rfl⟩ := List.mem_map.1 hm
    rcases List.mem_cons.1 h with h | h
    · exact absurd h (by decide)
    · exact num_no2 (itoa_num q) (.inr rfl) h
/-- What a valid gate's fields are. -/
theorem gtB_fields {g : Gt} {n : Int} (h : gtB g n = true) : (ar g.k = 1 ∧ gqs g = [g.a] ∧ g.b = 0 ∧ g.c = 0) ∨ (ar g.k = 2 ∧ gqs g = [g.a, g.b] ∧ g.c = 0) ∨ (ar g.k = 3 ∧ gqs g = [g.a, g.b, g.c]) := by
  obtain ⟨hn, hk, -⟩ := gtB_parts h
  obtain ⟨k, a, b, c⟩ := g
  have h3 := ar_le k
  have h0 : ar k ≠ 0 := fun e => by rw [gtB_zero e] at h; cases h
  rcases (show ar k = 1 ∨ ar k = 2 ∨ ar k = 3 by omega) with e | e | e
  · rw [gtB_1 e hn, Bool.and_eq_true, Bool.and_eq_true, decide_eq_true_eq, decide_eq_true_eq] at h
    exact .inl ⟨e, by unfold gqs; simp [e], h.1.1, h.1.2⟩
  · rw [gtB_2 e hn, Bool.and_eq_true, decide_eq_true_eq] at h
    exact .inr (.inl ⟨e, by unfold gqs; simp [e], h.1⟩)
  · exact .inr (.inr ⟨e, by unfold gqs; simp [e]⟩)
theorem itoa_small {n m : Int} (h : toB (itoa n) = toB (itoa m)) (a0 : 0 ≤ n) (a1 : n < 4) (b0 : 0 ≤ m) (b1 : m < 4) : n = m := itoa_inj64 (toB_inj h) (by omega) (by omega) (by omega) (by omega)
theorem gtT_inj {g h : Gt} (hg : gtB g 4 = true) (hh : gtB h 4 = true) (e : gtT g = gtT h) : g = h := by
  obtain ⟨-, gk, ga, gb, gc⟩ := gtB_parts hg
  obtain ⟨-, hk, ha, hb, hc⟩ := gtB_parts hh
  have e1 := gtT_pcs gk
  rw [e, gtT_pcs hk] at e1
  injection e1 with e2 e3
  have ek := nmB_inj gk hk e2.symm
  have fg := gtB_fields hg
  have fh := gtB_fields hh
  obtain ⟨k, a, b, c⟩ := g
  obtain ⟨m, a', b', c'⟩ := h
  simp only at ek
  subst ek
  simp only at fg fh ga gb gc ha hb hc
  rcases fg with ⟨r, q, z, z'⟩ | ⟨r, q, z⟩ | ⟨r, q⟩ <;> rcases fh with ⟨r', q', y, y'⟩ | ⟨r', q', y⟩ | ⟨r', q'⟩ <;> first | omega | skip
  · rw [q, q'] at e3
    simp only [List.map_cons, List.map_nil, List.cons.injEq, and_true] at e3
    rw [itoa_small e3 ha.1 ha.2 ga.1 ga.2, z, z', y, y']
  · rw [q, q'] at e3
    simp only [List.map_cons, List.map_nil, List.cons.injEq, and_true] at e3
    rw [itoa_small e3.1 ha.1 ha.2 ga.1 ga.2, itoa_small e3.2 hb.1 hb.2 gb.1 gb.2, z, y]
  · rw [q, q'] at e3
    simp only [List.map_cons, List.map_nil, List.cons.injEq, and_true] at e3
    rw [itoa_small e3.1 ha.1 ha.2 ga.1 ga.2, itoa_small e3.2.1 hb.1 hb.2 gb.1 gb.2, itoa_small e3.2.2 hc.1 hc.2 gc.1 gc.2]
/-- ParseGate: whether there is such a gate, and the gate. -/
noncomputable def pgB (s : ByteArray) : Bool := @decide (∃ g, gtB g 4 = true ∧ toB (gtT g) = s) (Classical.propDecidable _)
noncomputable def pgV (s : ByteArray) : Gt := by classical exact if h : ∃ g, gtB g 4 = true ∧ toB (gtT g) = s then h.choose else ⟨0, 0, 0, 0⟩
theorem pg_yes {g : Gt} {s : ByteArray} (h : gtB g 4 = true) (e : toB (gtT g) = s) : pgB s = true ∧ pgV s = g := by
  have hx : ∃ g, gtB g 4 = true ∧ toB (gtT g) = s := ⟨g, h, e⟩
  refine ⟨by unfold pgB; exact @decide_eq_true _ (Classical.propDecidable _) hx, ?_⟩
  unfold pgV
  rw [dif_pos hx]
  exact gtT_inj hx.choose_spec.1 h (toB_inj (hx.choose_spec.2.trans e.symm))
theorem pg_no {s : ByteArray} (h : ∀ g, gtB g 4 = true → toB (gtT g) ≠ s) : pgB s = false ∧ pgV s = ⟨0, 0, 0, 0⟩ := by
  have hx : ¬ ∃ g, gtB g 4 = true ∧ toB (gtT g) = s := fun ⟨g, h1, h2⟩ => h g h1 h2
  exact ⟨by unfold pgB; exact @decide_eq_false _ (Classical.propDecidable _) hx, by unfold pgV; rw [dif_neg hx]⟩
end Go.Proofs.YtbnkanlebjpkfaaGreatDoor
namespace Go.Proofs.YtbnkanlebjpkfaaGreatDoor
open Go.RowKit Go.Lib
theorem gNames : Tryz.prog.globalNamed "loop.example/g00506/impl.gateNames" = some 0 := by kernel_rfl
theorem gNamesType : (Tryz.prog.globals[0]?).map (·.type) = some 80 := by kernel_rfl
theorem cellsNames : Tryz.prog.cellsOf 80 = 13 := by kernel_rfl
theorem cellsName : Tryz.prog.cellsOf 9 = 1 := by kernel_rfl
/-- The names' bytes. -/
def namesL : List (List UInt8) := [[], [120], [121], [122], [104], [115], [115, 100], [116], [116, 100], [99, 120], [99, 122], [115, 119, 97, 112], [99, 99, 120]]
def HasNames (w : World) : Prop := StrsIs Tryz.prog w "loop.example/g00506/impl.gateNames" namesL
theorem HasNames.below {w w' : World} (h : HasNames w) (hb : Below w.heap.size w w') : HasNames w' := StrsIs.below h gNames hb
theorem HasNames.at {w : World} (h : HasNames w) {m : Nat} (h1 : 1 ≤ m) (h12 : m ≤ 12) : w.cell? ⟨0, m, none⟩ = some (.string (nmB (m : Int))) := by
  rcases (show m = 1 ∨ m = 2 ∨ m = 3 ∨ m = 4 ∨ m = 5 ∨ m = 6 ∨ m = 7 ∨ m = 8 ∨ m = 9 ∨ m = 10 ∨ m = 11 ∨ m = 12 by omega) with rfl | rfl | rfl | rfl | rfl | rfl | rfl | rfl | rfl | rfl | rfl | rfl
  all_goals exact StrsIs.cell h gNames _ rfl
attribute [local irreducible] World.cell?
set_option maxRecDepth 100000 in
set_option maxHeartbeats 1600000 in
theorem iname0 (k : Int) (w : World) (hn : HasNames w) : Calls Tryz.prog 44 #[.int .i64 k] w fun e w' => e = .returned (.string (nmB k)) ∧ w = w' := by
  have Ha := Lib.hid (fun w => iar0 k w)
  by_cases h : 1 ≤ k ∧ k ≤ 12
  · obtain ⟨m, rfl⟩ : ∃ m : Nat, k = m := ⟨k.toNat, by omega⟩
    have c0 := hn.at (m := m) (by omega) (by omega)
    have hp : 0 < ar (m : Int) := by unfold ar; (repeat' split) <;> omega
    have hm : m ≤ 12 := by omega
    generalize nmB (m : Int) = s at *
    generalize ar (m : Int) = t at *
    have ht : ((t : Int) == 0) = false := by simp; omega
    clear hn h hp
    go_enter Tryz.func44, Tryz.ntmps44
    go_wp2_with fail
    refine (Ha.out _).mono ?_
    rintro e w1 ⟨rfl, rfl⟩
    go_wp2_with fail
    go_ret
    exact ⟨rfl, rfl⟩
  · rw [show nmB k = ⟨#[]⟩ from if_neg h]
    rw [show ar k = 0 by unfold ar; rw [if_neg (by omega), if_neg (by omega), if_neg (by omega)]] at Ha
    clear h hn
    go_enter Tryz.func44, Tryz.ntmps44
    go_wp2_with fail
    refine (Ha.out _).mono ?_
    rintro e w1 ⟨rfl, rfl⟩
    go_wp2_with fail
    go_ret
    exact ⟨rfl, rfl⟩
theorem laidNames {W : World} {r : List (String × DataW Unit)} (h : laidMet Tryz.prog (("loop.example/g00506/impl.gateNames", Rows.laid_loop_example_g00506_impl_gateNames) :: r) W) : HasNames W :=
  strsIs_of_head gNames gNamesType Tryz.underlying80 Tryz.underlying9 cellsName cellsNames h
end Go.Proofs.YtbnkanlebjpkfaaGreatDoor
namespace Go.Proofs.YtbnkanlebjpkfaaGreatDoor
end Go.Proofs.YtbnkanlebjpkfaaGreatDoor
namespace Go.Proofs.YtbnkanlebjpkfaaGreatDoor
open Go.RowKit
attribute [local irreducible] World.cell?
set_option maxRecDepth 100000 in
set_option maxHeartbeats 3200000 in
theorem ivalidC (B : Nat) (n : Int) (v : Value) (l : List Gt) (w : World) (hv : gtE.Sl w B v l) (hm : l.length ≤ 1048576) (n0 : -9223372036854775808 ≤ n) (n1 : n ≤ 9223372036854775807) :
    Calls Tryz.prog 16 #[.agg #[.int .i64 n, v]] w fun e w' => e = .returned (.bool (ciB n l)) ∧ Below w.heap.size w w' := by
  obtain ⟨a, cap, rfl, hcap, hr⟩ := hv
  have Hr := Lib.hid hr
  clear hr
  have HC0 := Lib.hid (heap_alloc_new w (.cells #[.int .i64 n, .slice a l.length cap] 26))
  have Hb0 := Lib.hid (show Below w.heap.size w (w.alloc (.cells #[.int .i64 n, .slice a l.length cap] 26)) by go_grown)
  obtain ⟨p0, p1⟩ := blk_cells2 HC0.out
  have hCl := lt_of_block HC0.out
  obtain ⟨T, hT⟩ : ∃ T, T = ciB n l := ⟨_, rfl⟩
  rw [← hT]
  have HT := Lib.hid (hT.trans (show ciB n l = (l.all (fun g => gtB g n) && (decide (1 ≤ n ∧ n ≤ 4) && decide (l.length ≤ 60))) from rfl))
  clear hT
  by_cases hn : 1 ≤ n ∧ n ≤ 4
  · have Hq := Lib.hid (fun w => iisq_yes n w hn)
    have HG := Lib.hid (fun x W => ivalidG x n W n0 n1)
    have HT1 := Lib.hid (HT.out.trans (by rw [decide_eq_true hn, Bool.true_and]))
    clear hn HT
    by_cases h60 : l.length ≤ 60
    · have HT2 := Lib.hid (HT1.out.trans (by rw [decide_eq_true h60, Bool.and_true]))
      clear HT1
      go_enter Tryz.func16, Tryz.ntmps16
      go_wp2_with (first | (go_at_call 41; refine (Hq.out _).mono ?_; rintro e wR ⟨rfl, rfl⟩))
      go_loopg [18] l.length (fun m i wr => ∃ j : Nat, m = l.length - j ∧ j ≤ l.length ∧ i = .int .i64 j ∧ Hid ((l.take j).all (fun g => gtB g n) = true) ∧ Hid (wr.heap[w.heap.size]? = some (.cells #[.int .i64 n, .slice a l.length cap] 26 (0, 0))) ∧ Hid (Below w.heap.size w wr))
      case atStart => exact ⟨0, rfl, Nat.zero_le _, rfl, rfl, HC0, Hb0⟩
      case round =>
        obtain ⟨j, rfl, hj, rfl, Hyes, HC, Hb⟩ := hrel
        clear p0 p1 hCl
        obtain ⟨p0, p1⟩ := blk_cells2 HC.out
        have hCl := lt_of_block HC.out
        have hsw := Hb.out.size
        by_cases hlt : j < l.length
        · obtain ⟨g, rfl, _, hrow⟩ := Hr.out (by omega)
          obtain ⟨x, hx⟩ : ∃ x, l[j]? = some x := ⟨l[j], List.getElem?_eq_getElem hlt⟩
          have r1 := hrow.below Hb.out hrow.lt
          obtain ⟨c0, c1, c2, c3⟩ := GRow.cells r1 hx
          have hgl := r1.lt
          have HX := Lib.hid (heap_alloc_new wr (.cells #[.int .i64 x.k, .int .i64 x.a, .int .i64 x.b, .int .i64 x.c] 40))
          have HC2 := Lib.hid (alloc_blk (.cells #[.int .i64 x.k, .int .i64 x.a, .int .i64 x.b, .int .i64 x.c] 40) HC.out)
          obtain ⟨q0, q1⟩ := blk_cells2 HC2.out
          have Hb' := Lib.hid (show Below w.heap.size w (wr.alloc (.cells #[.int .i64 x.k, .int .i64 x.a, .int .i64 x.b, .int .i64 x.c] 40)) from Hb.out.alloc hsw _)
          have Hat := Lib.hid (all_take (p := fun g => gtB g n) hx Hyes.out)
          have Hno := Lib.hid (fun h => all_no (p := fun g => gtB g n) hx h)
          have Hc := Lib.hid (fun W => HG.out x W)
          clear hrow r1 hx
          generalize gtB x n = t at *
          go_wp2_with fail
          refine (Hc.out _).mono ?_
          rintro e w4 ⟨rfl, hb4⟩
          have HC4 := Lib.hid (below_blk hb4 (lt_of_block HC2.out) HC2.out)
          have Hb4 := Lib.hid (below_nx Hb'.out hb4)
          have hs4 := Hb4.out.size
          clear hb4 c0 c1 c2 c3 hgl
          cases t with
          | true =>
            clear Hno
            go_wp2_with fail
            go_roundg (l.length - (j + 1))
            case measure => omega
            case rel => exact ⟨j + 1, rfl, by omega, by go_num, Hat, HC4, Hb4⟩
          | false =>
            obtain rfl : T = false := HT2.out.trans (Hno.out rfl)
            clear Hno
            go_wp2_with fail
            go_ret
            exact ⟨rfl, Hb4.out⟩
        · obtain rfl : j = l.length := by omega
          have hall := Hyes.out
          rw [List.take_length] at hall
          obtain rfl : T = true := HT2.out.trans hall
          clear hall
          go_wp2_with fail
          go_ret
          exact ⟨rfl, Hb.out⟩
    · obtain rfl : T = false := HT1.out.trans (by rw [decide_eq_false h60, Bool.and_false])
      have h61 : ¬ l.length ≤ 60 := h60
      clear HT1 h60 HG
      go_enter Tryz.func16, Tryz.ntmps16
      go_wp2_with (first | (go_at_call 41; refine (Hq.out _).mono ?_; rintro e wR ⟨rfl, rfl⟩))
      go_ret
      exact ⟨rfl, Hb0.out⟩
  · have Hq := Lib.hid (fun w => iisq_no n w hn n0 n1)
    obtain rfl : T = false := HT.out.trans (by rw [decide_eq_false hn, Bool.false_and, Bool.and_false])
    clear hn HT
    go_enter Tryz.func16, Tryz.ntmps16
    go_wp2_with (first | (go_at_call 41; refine (Hq.out _).mono ?_; rintro e wR ⟨rfl, rfl⟩))
    go_ret
    exact ⟨rfl, Hb0.out⟩
end Go.Proofs.YtbnkanlebjpkfaaGreatDoor
namespace Go.Proofs.YtbnkanlebjpkfaaGreatDoor
open Go.RowKit
/-- A slice of the laws' gates that came in. -/
def GsIn (w : World) (B : Nat) (a0 : Option Addr) (l : List Gt) : Prop :=
  l.length ≤ maxLen ∧
  (0 < l.length → ∃ b off, a0 = some ⟨b, off, none⟩ ∧ b < B ∧ ∀ j x, l[j]? = some x → w.cell? ⟨b, off + j * 4, none⟩ = some (.int .i64 x.k) ∧ w.cell? ⟨b, off + j * 4 + 1, none⟩ = some (.int .i64 x.a) ∧ w.cell? ⟨b, off + j * 4 + 2, none⟩ = some (.int .i64 x.b) ∧ w.cell? ⟨b, off + j * 4 + 3, none⟩ = some (.int .i64 x.c))
theorem GsIn.below {w w' : World} {B : Nat} {a0 : Option Addr} {l : List Gt} (h : GsIn w B a0 l) (hb : Below B w w') : GsIn w' B a0 l :=
  ⟨h.1, fun h0 => by
    obtain ⟨b, off, e, hlt, hc⟩ := h.2 h0
    refine ⟨b, off, e, hlt, fun j x hx => ?_⟩
    obtain ⟨c0, c1, c2, c3⟩ := hc j x hx
    exact ⟨(hb.cell (by exact hlt)).trans c0, (hb.cell (by exact hlt)).trans c1, (hb.cell (by exact hlt)).trans c2, (hb.cell (by exact hlt)).trans c3⟩⟩
theorem GsIn.mono {w : World} {B C : Nat} {a0 : Option Addr} {l : List Gt} (h : GsIn w B a0 l) (hC : B ≤ C) : GsIn w C a0 l :=
  ⟨h.1, fun h0 => by obtain ⟨b, off, e, hlt, hc⟩ := h.2 h0; exact ⟨b, off, e, by omega, hc⟩⟩
/-- A part of such a slice. -/
theorem GsIn.drop {w : World} {B g off : Nat} {l : List Gt} (h : GsIn w B (some ⟨g, off, none⟩) l) (k : Nat) : GsIn w B (some ⟨g, off + k * 4, none⟩) (l.drop k) := by
  refine ⟨Nat.le_trans (by rw [List.length_drop]; omega) h.1, fun h0 => ?_⟩
  rw [List.length_drop] at h0
  obtain ⟨b, o, e, hb, hc⟩ := h.2 (by omega)
  injection e with e
  injection e with e1 e2
  subst e1 e2
  refine ⟨_, _, rfl, hb, fun j x hx => ?_⟩
  rw [List.getElem?_drop] at hx
  have := hc (k + j) x hx
  rwa [show off + (k + j) * 4 = off + k * 4 + j * 4 by rw [Nat.add_mul]; omega] at this
/-- A gate written into a row, cell by cell. -/
theorem GRow.put {w : World} {g : Nat} {l : List Gt} (h : gtE.Row w g l) {j : Nat} (hj : j < l.length) (x : Gt) :
    gtE.Row ((((w.setCell ⟨g, j * 4, none⟩ (.int .i64 x.k)).setCell ⟨g, j * 4 + 1, none⟩ (.int .i64 x.a)).setCell ⟨g, j * 4 + 2, none⟩ (.int .i64 x.b)).setCell ⟨g, j * 4 + 3, none⟩ (.int .i64 x.c)) g (l.set j x) := by
  obtain ⟨y, hy⟩ : ∃ y, l[j]? = some y := ⟨l[j], List.getElem?_eq_getElem hj⟩
  have h1 := h.put1 (o := 0) (v := .int .i64 x.k) (y := ⟨x.k, y.a, y.b, y.c⟩) hy (by decide) rfl
  have h2 := h1.put1 (j := j) (o := 1) (v := .int .i64 x.a) (x := ⟨x.k, y.a, y.b, y.c⟩) (y := ⟨x.k, x.a, y.b, y.c⟩) (by rw [List.getElem?_set_self hj]) (by decide) rfl
  rw [List.set_set] at h2
  have h3 := h2.put1 (j := j) (o := 2) (v := .int .i64 x.b) (x := ⟨x.k, x.a, y.b, y.c⟩) (y := ⟨x.k, x.a, x.b, y.c⟩) (by rw [List.getElem?_set_self hj]) (by decide) rfl
  rw [List.set_set] at h3
  have h4 := h3.put1 (j := j) (o := 3) (v := .int .i64 x.c) (x := ⟨x.k, x.a, x.b, y.c⟩) (y := x) (by rw [List.getElem?_set_self hj]) (by decide) rfl
  rw [List.set_set] at h4
  exact h4
/-- Two gates of rows beside each other. -/
def E2G (w : World) (g g' o : Nat) (x y : Gt) (w' : World) : Prop :=
  w'.cell? ⟨g, o, none⟩ = some (.int .i64 x.k) ∧ w'.cell? ⟨g, o + 1, none⟩ = some (.int .i64 x.a) ∧ w'.cell? ⟨g, o + 2, none⟩ = some (.int .i64 x.b) ∧ w'.cell? ⟨g, o + 3, none⟩ = some (.int .i64 x.c) ∧
  w'.cell? ⟨g', o, none⟩ = some (.int .i64 y.k) ∧ w'.cell? ⟨g', o + 1, none⟩ = some (.int .i64 y.a) ∧ w'.cell? ⟨g', o + 2, none⟩ = some (.int .i64 y.b) ∧ w'.cell? ⟨g', o + 3, none⟩ = some (.int .i64 y.c) ∧ g < w'.heap.size ∧ g' < w'.heap.size ∧ Below w.heap.size w w'
theorem E2G.drew {w w' : World} {g g' o : Nat} {x y : Gt} (h : E2G w g g' o x y w') : E2G w g g' o x y w'.drew :=
  let ⟨a0, a1, a2, a3, b0, b1, b2, b3, z, z', l⟩ := h; ⟨a0, a1, a2, a3, b0, b1, b2, b3, z, z', l.drew⟩
theorem E2G.below {w w1 w2 : World} {g g' o : Nat} {x y : Gt} (h : E2G w g g' o x y w1) (hb : Below w1.heap.size w1 w2) : E2G w g g' o x y w2 :=
  let ⟨a0, a1, a2, a3, b0, b1, b2, b3, z, z', l⟩ := h
  ⟨cell_below a0 hb z, cell_below a1 hb z, cell_below a2 hb z, cell_below a3 hb z, cell_below b0 hb z', cell_below b1 hb z', cell_below b2 hb z', cell_below b3 hb z', Nat.lt_of_lt_of_le z hb.size, Nat.lt_of_lt_of_le z' hb.size, below_up l hb l.size⟩
theorem E2G.low {w w' : World} {g g' o : Nat} {x y : Gt} (h : E2G w g g' o x y w') : Below w.heap.size w w' := let ⟨_, _, _, _, _, _, _, _, _, _, l⟩ := h; l
attribute [local irreducible] World.cell?
end Go.Proofs.YtbnkanlebjpkfaaGreatDoor
namespace Go.Proofs.YtbnkanlebjpkfaaGreatDoor
open Go.ChangeShapes Go.WideShapes Go.ChangeAt Go.RowKit Go.Lib Go.Joins
end Go.Proofs.YtbnkanlebjpkfaaGreatDoor
