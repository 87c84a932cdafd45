/- B05: several of our texts in one: TcK TcC TcD. -/
import Derived.Test.YtbnkanlebjpkfaaDoorB13
import Derived.Test.YtbnkanlebjpkfaaDoorB08
namespace Go.Proofs.YtbnkanlebjpkfaaDoor
open Go.RowKit Go.Lib
theorem bytes_no {a b : ByteArray} (h : a ≠ b) : (a.toList == b.toList) = false := by
  rw [Bool.eq_false_iff]
  intro k
  have k := eq_of_beq k
  rw [ByteArray.toList_eq, ByteArray.toList_eq] at k
  exact h (ByteArray.ext (Array.toList_inj.1 k))
theorem bytes_yes (a : ByteArray) : (a.toList == a.toList) = true := beq_self_eq_true _
theorem gkV_miss {s : ByteArray} (h : ∀ m : Nat, 1 ≤ m → m < 13 → nmB (m : Int) ≠ s) : gkV s = 0 := by
  rcases gkV_range s with e | ⟨h1, h2, h3⟩
  · exact e
  · exact absurd h3 (by
      have := h (gkV s).toNat (by omega) (by omega)
      rwa [show (((gkV s).toNat : Nat) : Int) = gkV s by omega] at this)
attribute [local irreducible] World.cell?
set_option maxRecDepth 100000 in
set_option maxHeartbeats 1600000 in
theorem sgkind (s : ByteArray) (w : World) :
    Calls Tryd.prog 23 #[.string s] w fun e w' => e = .returned (.int .i64 (gkV s)) ∧ Below w.heap.size w w' := by
  obtain ⟨V, hV⟩ : ∃ V, V = gkV s := ⟨_, rfl⟩
  rw [← hV]
  have HV := Lib.hid hV
  clear hV
  go_enter Tryd.func23, Tryd.ntmps23
  go_wp2_with fail
  go_loopw [3] (fun i wr => ∃ j : Nat, 1 ≤ j ∧ j ≤ 13 ∧ i = .int .i64 j ∧ Hid (∀ m : Nat, 1 ≤ m → m < j → nmB (m : Int) ≠ s) ∧ Hid (Below w.heap.size w wr)) (fun i _ => 13 - (intOf i).toNat)
  case atStart => exact ⟨1, Nat.le_refl _, by omega, rfl, Lib.hid (fun m h1 h2 => absurd h2 (by omega)), Below.refl _ _⟩
  case round =>
    obtain ⟨j, hj1, hj, rfl, Hno, Hb⟩ := hrel
    by_cases hlt : j < 13
    · have hle : (j : Int) ≤ 12 := by omega
      have HN := Lib.hid (fun W => sname (j : Int) W)
      by_cases hn : nmB (j : Int) = s
      · have hv : V = (j : Int) := by rw [HV.out, ← hn, gkV_of (by omega)]
        subst hv
        have hbe := bytes_yes s
        rw [hn] at HN
        clear hn
        go_wp2_with fail
        refine (HN.out _).mono ?_
        rintro e w1 ⟨rfl, hb1⟩
        have Hb1 := Lib.hid (below_nx Hb.out hb1)
        clear hb1
        go_wp2_with fail
        go_ret
        exact ⟨rfl, Hb1.out⟩
      · have hbe := bytes_no hn
        have Hno2 := Lib.hid (show ∀ m : Nat, 1 ≤ m → m < j + 1 → nmB (m : Int) ≠ s from fun m h1 h2 => by
          rcases Nat.lt_or_ge m j with h | h
          · exact Hno.out m h1 h
          · obtain rfl : m = j := by omega
            exact hn)
        clear hn Hno
        generalize nmB (j : Int) = N at *
        go_wp2_with fail
        refine (HN.out _).mono ?_
        rintro e w1 ⟨rfl, hb1⟩
        have Hb1 := Lib.hid (below_nx Hb.out hb1)
        clear hb1
        go_wp2_with fail
        go_roundw
        case rel => exact ⟨j + 1, by omega, by omega, by go_num, Hno2, Hb1⟩
        case measure => simp [intOf]; omega
    · obtain rfl : j = 13 := by omega
      have hv : V = 0 := HV.out.trans (gkV_miss Hno.out)
      subst hv
      go_wp2_with fail
      go_ret
      exact ⟨rfl, Hb.out⟩
end Go.Proofs.YtbnkanlebjpkfaaDoor
namespace Go.Proofs.YtbnkanlebjpkfaaDoor
open Go.Lib
/-- The text of a circuit. -/
def word7 : List UInt8 := [113, 117, 98, 105, 116, 115]
def hdT (n : Int) : List UInt8 := word7 ++ [itoa n].flatMap fun m => 32 :: m
def cT (n : Int) (L : List Gt) : List UInt8 := hdT n ++ (L.map gtT).flatMap fun m => 10 :: m
def cTxt (n : Int) (L : List Gt) : ByteArray := if ciB n L then toB (cT n L) else toB []
theorem hdT_no10 (n : Int) : (10 : UInt8) ∉ hdT n := by
  unfold hdT
  simp only [List.flatMap_cons, List.flatMap_nil, List.append_nil, List.mem_append, List.mem_cons]
  rintro (h | h | h)
  · exact absurd h (by decide)
  · exact absurd h (by decide)
  · exact num_no2 (itoa_num n) (.inr rfl) h
theorem hdT_pcs (n : Int) : pcs 32 (toB (hdT n)) = [toB word7, toB (itoa n)] :=
  pcs_flat (by decide) fun m hm => by rw [List.mem_singleton.1 hm]; exact num_no2 (itoa_num n) (.inl rfl)
theorem cT_pcs {n : Int} {L : List Gt} (h : ∀ g ∈ L, gtB g n = true) : pcs 10 (toB (cT n L)) = toB (hdT n) :: L.map fun g => toB (gtT g) := by
  unfold cT
  rw [pcs_flat (hdT_no10 n) (fun m hm => by obtain ⟨g, hg, rfl⟩ := List.mem_map.1 hm; exact gtT_no10 (gtB_parts (h g hg)).2.1), List.map_map]
  rfl
theorem map_gtT_inj : ∀ {L M : List Gt}, (∀ g ∈ L, gtB g 4 = true) → (∀ g ∈ M, gtB g 4 = true) → L.map (fun g => toB (gtT g)) = M.map (fun g => toB (gtT g)) → L = M
  | [], [], _, _, _ => rfl
  | [], _ :: _, _, _, h => by cases h
  | _ :: _, [], _, _, h => by cases h
  | x :: L, y :: M, hL, hM, h => by
    simp only [List.map_cons, List.cons.injEq] at h
    rw [gtT_inj (hL x (List.mem_cons_self ..)) (hM y (List.mem_cons_self ..)) (toB_inj h.1), map_gtT_inj (fun g hg => hL g (List.mem_cons_of_mem _ hg)) (fun g hg => hM g (List.mem_cons_of_mem _ hg)) h.2]
theorem cT_inj {n m : Int} {L M : List Gt} (h : ciB n L = true) (k : ciB m M = true) (e : cT n L = cT m M) : n = m ∧ L = M := by
  obtain ⟨h1, h2, -⟩ := ciB_parts h
  obtain ⟨k1, k2, -⟩ := ciB_parts k
  have e1 := cT_pcs h1
  rw [e, cT_pcs k1] at e1
  injection e1 with e2 e3
  have e4 := hdT_pcs n
  rw [← e2, hdT_pcs m] at e4
  injection e4 with _ e5
  injection e5 with e6 _
  exact ⟨(itoa_inj64 (toB_inj e6) (by omega) (by omega) (by omega) (by omega)).symm, map_gtT_inj (fun g hg => gtB_mono (h1 g hg)) (fun g hg => gtB_mono (k1 g hg)) e3.symm⟩
/-- ParseCircuit: whether there is such a circuit, and the circuit. -/
noncomputable def pcB (s : ByteArray) : Bool := @decide (∃ c : Int × List Gt, ciB c.1 c.2 = true ∧ toB (cT c.1 c.2) = s) (Classical.propDecidable _)
noncomputable def pcV (s : ByteArray) : Int × List Gt := by classical exact if h : ∃ c : Int × List Gt, ciB c.1 c.2 = true ∧ toB (cT c.1 c.2) = s then h.choose else (0, [])
theorem pc_yes {n : Int} {L : List Gt} {s : ByteArray} (h : ciB n L = true) (e : toB (cT n L) = s) : pcB s = true ∧ pcV s = (n, L) := by
  have hx : ∃ c : Int × List Gt, ciB c.1 c.2 = true ∧ toB (cT c.1 c.2) = s := ⟨(n, L), h, e⟩
  refine ⟨by unfold pcB; exact @decide_eq_true _ (Classical.propDecidable _) hx, ?_⟩
  unfold pcV
  rw [dif_pos hx]
  obtain ⟨i, j⟩ := cT_inj hx.choose_spec.1 h (toB_inj (hx.choose_spec.2.trans e.symm))
  exact Prod.ext i j
theorem pc_no {s : ByteArray} (h : ∀ n L, ciB n L = true → toB (cT n L) ≠ s) : pcB s = false ∧ pcV s = (0, []) := by
  have hx : ¬ ∃ c : Int × List Gt, ciB c.1 c.2 = true ∧ toB (cT c.1 c.2) = s := fun ⟨c, h1, h2⟩ => h c.1 c.2 h1 h2
  exact ⟨by unfold pcB; exact @decide_eq_false _ (Classical.propDecidable _) hx, by unfold pcV; rw [dif_neg hx]⟩
end Go.Proofs.YtbnkanlebjpkfaaDoor
namespace Go.Proofs.YtbnkanlebjpkfaaDoor
theorem pcV_both (s : ByteArray) : (pcV s).2.length ≤ 60 ∧ 0 ≤ (pcV s).1 ∧ (pcV s).1 ≤ 4 := by
  by_cases hx : ∃ c : Int × List Gt, ciB c.1 c.2 = true ∧ toB (cT c.1 c.2) = s
  · obtain ⟨⟨n, L⟩, h, e⟩ := hx
    rw [(pc_yes h e).2]
    unfold ciB at h
    simp only [Bool.and_eq_true, decide_eq_true_eq] at h
    exact ⟨h.2.2, by omega, by omega⟩
  · rw [(pc_no fun n L h e => hx ⟨(n, L), h, e⟩).2]
    exact ⟨Nat.zero_le _, Int.le_refl _, (by decide : (0 : Int) ≤ 4)⟩
theorem pcV_len (s : ByteArray) : (pcV s).2.length ≤ 60 := (pcV_both s).1
end Go.Proofs.YtbnkanlebjpkfaaDoor
