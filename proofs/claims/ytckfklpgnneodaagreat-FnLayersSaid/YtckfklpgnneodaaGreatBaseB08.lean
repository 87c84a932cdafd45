/- BaseB08: several of our texts in one: LyP MtC MtD AdN AmM DsB MtW MtA MtM MtI MtU PmL ApKc. -/
import Derived.Test.YtckfklpgnneodaaGreatBaseB04
import Derived.Test.YtckfklpgnneodaaGreatBaseB07
import Derived.Test.YtckfklpgnneodaaGreatDwN
import Derived.Test.YtckfklpgnneodaaGreatDwA
import Derived.Test.YtckfklpgnneodaaGreatDwB
namespace Go.Proofs.YtckfklpgnneodaaGreat
/-- Two gates share a qubit. -/
def mtG (g h : Gt) : Bool := (gqs g).any fun q => decide (q ∈ gqs h)
def anyG (L : List Gt) (h : Gt) : Bool := L.any fun g => mtG g h
/-- From n downwards: the first layer behind the last that meets h. -/
def atL (M : List (List Gt)) (h : Gt) : Nat → Nat
  | 0 => 0
  | n + 1 => if anyG (M.getD n []) h then n + 1 else atL M h n
def layAt (M : List (List Gt)) (h : Gt) : Nat := atL M h M.length
def layG (M : List (List Gt)) (h : Gt) : List (List Gt) :=
  if layAt M h = M.length then M ++ [[h]] else M.set (layAt M h) (M.getD (layAt M h) [] ++ [h])
def layL : List (List Gt) → List Gt → List (List Gt)
  | M, [] => M
  | M, g :: L => layL (layG M g) L
theorem mtG_iff {g h : Gt} : mtG g h = true ↔ ∃ q, q ∈ gqs g ∧ q ∈ gqs h := by simp [mtG]
theorem mtG_comm (g h : Gt) : mtG g h = mtG h g := by
  rw [Bool.eq_iff_iff, mtG_iff, mtG_iff]
  exact ⟨fun ⟨q, a, b⟩ => ⟨q, b, a⟩, fun ⟨q, a, b⟩ => ⟨q, b, a⟩⟩
theorem anyG_no {L : List Gt} {h : Gt} (k : anyG L h = false) {g : Gt} (hg : g ∈ L) : mtG g h = false := by
  have := List.any_eq_false.1 k g hg
  simpa using this
theorem atL_le (M : List (List Gt)) (h : Gt) : ∀ n, atL M h n ≤ n
  | 0 => Nat.le_refl 0
  | n + 1 => by
    rw [atL]
    split
    · exact Nat.le_refl _
    · exact Nat.le_succ_of_le (atL_le M h n)
/-- Behind its place a gate meets no layer. -/
theorem atL_clear (M : List (List Gt)) (h : Gt) : ∀ n k, atL M h n ≤ k → k < n → anyG (M.getD k []) h = false
  | 0, k, _, hk => absurd hk (Nat.not_lt_zero _)
  | n + 1, k, h1, hk => by
    rw [atL] at h1
    split at h1
    · omega
    · rename_i hn
      rcases Nat.lt_succ_iff_lt_or_eq.1 hk with h2 | rfl
      · exact atL_clear M h n k h1 h2
      · simpa using hn
theorem layAt_le (M : List (List Gt)) (h : Gt) : layAt M h ≤ M.length := atL_le M h _
theorem layAt_clear {M : List (List Gt)} {h : Gt} {k : Nat} (h1 : layAt M h ≤ k) (hk : k < M.length) : anyG (M.getD k []) h = false := atL_clear M h _ k h1 hk
theorem layG_len (M : List (List Gt)) (h : Gt) : (layG M h).length = max M.length (layAt M h + 1) := by
  have := layAt_le M h
  unfold layG
  split
  · rename_i e
    rw [List.length_append, e]
    simp
  · rw [List.length_set]; omega
/-- Gates that share no qubit exchanged, again and again. -/
inductive Sw : List Gt → List Gt → Prop
  | refl (L : List Gt) : Sw L L
  | swap (A B : List Gt) (g h : Gt) (L : List Gt) : mtG g h = false → Sw (A ++ h :: g :: B) L → Sw (A ++ g :: h :: B) L
theorem Sw.trans {L M N : List Gt} (h : Sw L M) (k : Sw M N) : Sw L N := by
  induction h with
  | refl _ => exact k
  | swap A B g h L hm _ ih => exact .swap A B g h N hm (ih k)
theorem Sw.behind {L M : List Gt} (h : Sw L M) (B : List Gt) : Sw (L ++ B) (M ++ B) := by
  induction h with
  | refl _ => exact .refl _
  | swap A C g h L hm _ ih =>
    have e : A ++ g :: h :: C ++ B = A ++ g :: h :: (C ++ B) := by simp
    rw [e]
    refine .swap A (C ++ B) g h _ hm ?_
    have e2 : A ++ h :: g :: C ++ B = A ++ h :: g :: (C ++ B) := by simp
    rw [← e2]
    exact ih
theorem Sw.move (h : Gt) (B : List Gt) : ∀ (X A : List Gt), (∀ g ∈ X, mtG g h = false) → Sw (A ++ X ++ h :: B) (A ++ h :: (X ++ B))
  | [], A, _ => by simpa using Sw.refl (A ++ h :: B)
  | g :: X, A, hx => by
    have h1 := Sw.move h B X (A ++ [g]) fun x hxx => hx x (List.mem_cons_of_mem _ hxx)
    have e1 : A ++ g :: X ++ h :: B = A ++ [g] ++ X ++ h :: B := by simp
    rw [e1]
    refine h1.trans ?_
    have e2 : A ++ [g] ++ h :: (X ++ B) = A ++ g :: h :: (X ++ B) := by simp
    rw [e2]
    exact .swap A (X ++ B) g h _ (hx g (List.mem_cons_self ..)) (Sw.refl _)
theorem layG_sw (M : List (List Gt)) (h : Gt) : Sw (M.flatten ++ [h]) (layG M h).flatten := by
  unfold layG
  split
  · rw [List.flatten_append]
    exact .refl _
  · rename_i hne
    have hlt : layAt M h < M.length := by have := layAt_le M h; omega
    have hg : M.getD (layAt M h) [] = M[layAt M h] := by rw [List.getD_eq_getElem?_getD, List.getElem?_eq_getElem hlt]; rfl
    have e : M.set (layAt M h) (M.getD (layAt M h) [] ++ [h]) = M.take (layAt M h) ++ (M[layAt M h] ++ [h]) :: M.drop (layAt M h + 1) := by
      rw [hg, List.set_eq_take_append_cons_drop, if_pos hlt]
    have e2 : M.flatten = (M.take (layAt M h)).flatten ++ M[layAt M h] ++ (M.drop (layAt M h + 1)).flatten := by
      have h0 := List.take_append_drop (layAt M h) M
      have h1 := List.getElem_cons_drop hlt
      calc M.flatten = (M.take (layAt M h) ++ M.drop (layAt M h)).flatten := by rw [h0]
        _ = _ := by rw [← h1, List.flatten_append, List.flatten_cons, List.append_assoc]
    rw [e, e2]
    have h1 := Sw.move h [] (M.drop (layAt M h + 1)).flatten ((M.take (layAt M h)).flatten ++ M[layAt M h]) fun g hgm => by
      obtain ⟨l, hl, hgl⟩ := List.mem_flatten.1 hgm
      obtain ⟨k, hk, rfl⟩ := List.mem_iff_getElem.1 hl
      rw [List.length_drop] at hk
      have hc := layAt_clear (M := M) (h := h) (k := layAt M h + 1 + k) (by omega) (by omega)
      rw [List.getD_eq_getElem?_getD, List.getElem?_eq_getElem (by omega)] at hc
      rw [List.getElem_drop] at hgl
      exact anyG_no hc hgl
    simpa using h1
theorem layL_sw : ∀ (L : List Gt) (M : List (List Gt)), Sw (M.flatten ++ L) (layL M L).flatten
  | [], M => by simpa [layL] using Sw.refl M.flatten
  | g :: L, M => by
    rw [layL]
    refine Sw.trans ?_ (layL_sw L (layG M g))
    have := (layG_sw M g).behind L
    simpa using this
/-- No two gates of a layer share a qubit. -/
def lyOk (l : List Gt) : Prop := ∀ k x, l[k]? = some x → anyG (l.take k) x = false
theorem lyOk_snoc {l : List Gt} {h : Gt} (k : lyOk l) (hn : anyG l h = false) : lyOk (l ++ [h]) := by
  intro j x hx
  rcases Nat.lt_trichotomy j l.length with hj | rfl | hj
  · rw [List.getElem?_append_left hj] at hx
    rw [List.take_append_of_le_length (by omega)]
    exact k j x hx
  · rw [List.getElem?_append_right (Nat.le_refl _), Nat.sub_self] at hx
    simp at hx
    subst hx
    rw [List.take_left]
    exact hn
  · rw [List.getElem?_eq_none (by simp; omega)] at hx; cases hx
theorem lyOk_nil : lyOk [] := fun k x hx => by simp at hx
theorem layG_ok {M : List (List Gt)} {h : Gt} (k : ∀ l ∈ M, lyOk l) : ∀ l ∈ layG M h, lyOk l := by
  intro l hl
  unfold layG at hl
  split at hl
  · rcases List.mem_append.1 hl with h1 | h1
    · exact k l h1
    · simp at h1
      subst h1
      exact lyOk_snoc lyOk_nil rfl
  · rename_i hne
    have hlt : layAt M h < M.length := by have := layAt_le M h; omega
    have hg : M.getD (layAt M h) [] = M[layAt M h] := by rw [List.getD_eq_getElem?_getD, List.getElem?_eq_getElem hlt]; rfl
    rcases List.mem_or_eq_of_mem_set hl with h1 | rfl
    · exact k l h1
    · exact lyOk_snoc (by rw [hg]; exact k _ (List.getElem_mem _)) (layAt_clear (Nat.le_refl _) hlt)
theorem layL_ok : ∀ {L : List Gt} {M : List (List Gt)}, (∀ l ∈ M, lyOk l) → ∀ l ∈ layL M L, lyOk l
  | [], _, k => k
  | g :: L, M, k => by rw [layL]; exact layL_ok (layG_ok k)
theorem Sw.perm {L M : List Gt} (h : Sw L M) : L.Perm M := by
  induction h with
  | refl _ => exact .refl _
  | swap A B g h L _ _ ih => exact (List.Perm.append_left A (List.Perm.swap h g B)).trans ih
/-- A gate's place once another has been laid. -/
theorem atL_set {M : List (List Gt)} {g h : Gt} {at' : Nat} : ∀ {n : Nat}, at' < M.length → atL (M.set at' (M.getD at' [] ++ [g])) h n = if mtG g h = true ∧ at' < n then max (atL M h n) (at' + 1) else atL M h n
  | 0, _ => by simp [atL]
  | n + 1, hl => by
    have ih := atL_set (M := M) (g := g) (h := h) (n := n) hl
    have hle := atL_le M h n
    rw [atL, atL]
    by_cases e : at' = n
    · subst e
      have hg : (M.set at' (M.getD at' [] ++ [g])).getD at' [] = M.getD at' [] ++ [g] := by
        rw [List.getD_eq_getElem?_getD, List.getElem?_set_self hl]; rfl
      have ha : anyG (M.getD at' [] ++ [g]) h = (anyG (M.getD at' []) h || mtG g h) := by unfold anyG; rw [List.any_append]; simp
      rw [hg, ha, ih]
      cases h1 : anyG (M.getD at' []) h <;> cases h2 : mtG g h <;> simp <;> omega
    · have hg : (M.set at' (M.getD at' [] ++ [g])).getD n [] = M.getD n [] := by
        rw [List.getD_eq_getElem?_getD, List.getElem?_set_ne e, ← List.getD_eq_getElem?_getD]
      rw [hg, ih]
      by_cases hm : mtG g h = true
      · by_cases hlt : at' < n
        · cases h1 : anyG (M.getD n []) h <;> simp [hm, hlt, Nat.lt_succ_of_lt hlt] <;> omega
        · have h3 : ¬ at' < n + 1 := by omega
          cases h1 : anyG (M.getD n []) h <;> simp [hlt, h3]
      · cases h1 : anyG (M.getD n []) h <;> simp [hm]
theorem atL_snoc {M : List (List Gt)} {g h : Gt} : ∀ {n : Nat}, n ≤ M.length → atL (M ++ [[g]]) h n = atL M h n
  | 0, _ => rfl
  | n + 1, hl => by
    rw [atL, atL, atL_snoc (M := M) (by omega), List.getD_eq_getElem?_getD, List.getElem?_append_left (by omega), ← List.getD_eq_getElem?_getD]
theorem layAt_lay (M : List (List Gt)) (g h : Gt) : layAt (layG M g) h = if mtG g h = true then max (layAt M h) (layAt M g + 1) else layAt M h := by
  have hle := layAt_le M g
  have hlh := layAt_le M h
  by_cases e : layAt M g = M.length
  · have hG : layG M g = M ++ [[g]] := if_pos e
    have ha : layAt (layG M g) h = if anyG ((M ++ [[g]]).getD M.length []) h then M.length + 1 else atL (M ++ [[g]]) h M.length := by
      rw [hG]; unfold layAt; rw [List.length_append]; rfl
    have hg : (M ++ [[g]]).getD M.length [] = [g] := by rw [List.getD_eq_getElem?_getD]; simp
    have hany : anyG [g] h = mtG g h := by simp [anyG]
    rw [ha, hg, hany, atL_snoc (Nat.le_refl _)]
    show (if mtG g h = true then M.length + 1 else layAt M h) = _
    split
    · omega
    · rfl
  · have hlt : layAt M g < M.length := by omega
    have hG : layG M g = M.set (layAt M g) (M.getD (layAt M g) [] ++ [g]) := if_neg e
    rw [hG]
    show atL _ h (M.set _ _).length = _
    rw [List.length_set, atL_set hlt]
    show (if mtG g h = true ∧ layAt M g < M.length then max (layAt M h) (layAt M g + 1) else layAt M h) = _
    by_cases hm : mtG g h = true
    · rw [if_pos ⟨hm, hlt⟩, if_pos hm]
    · rw [if_neg fun h => hm h.1, if_neg hm]
/-- Layers laid upon d layers, against the same layers laid upon none. -/
def Low (d : Nat) (P Q : List (List Gt)) : Prop := (∀ h, layAt P h ≤ layAt Q h ∧ layAt Q h ≤ d + layAt P h) ∧ P.length ≤ Q.length ∧ Q.length ≤ d + P.length ∧ d ≤ Q.length
theorem Low.lay {d : Nat} {P Q : List (List Gt)} (h : Low d P Q) (g : Gt) : Low d (layG P g) (layG Q g) := by
  obtain ⟨h1, h2, h3, h4⟩ := h
  have hg := h1 g
  refine ⟨fun x => ?_, ?_, ?_, ?_⟩
  · have hx := h1 x
    rw [layAt_lay, layAt_lay]
    split
    · omega
    · exact hx
  · rw [layG_len, layG_len]; omega
  · rw [layG_len, layG_len]; omega
  · rw [layG_len]; omega
theorem Low.all {d : Nat} : ∀ (L : List Gt) {P Q : List (List Gt)}, Low d P Q → Low d (layL P L) (layL Q L)
  | [], _, _, h => h
  | g :: L, _, _, h => by rw [layL, layL]; exact Low.all L (h.lay g)
theorem layL_app : ∀ (L K : List Gt) (M : List (List Gt)), layL M (L ++ K) = layL (layL M L) K
  | [], _, _ => rfl
  | g :: L, K, M => by rw [List.cons_append, layL, layL]; exact layL_app L K (layG M g)
theorem layL_len : ∀ (L : List Gt) (M : List (List Gt)), (layL M L).length ≤ M.length + L.length
  | [], M => Nat.le_refl _
  | g :: L, M => by
    rw [layL]
    have h1 := layL_len L (layG M g)
    have h2 := layG_len M g
    have h3 := layAt_le M g
    rw [List.length_cons]
    omega
end Go.Proofs.YtckfklpgnneodaaGreat
namespace Go.Proofs.YtckfklpgnneodaaGreat
open Go.RowKit
theorem col_step {M : List (List Dw)} {j k : Nat} {r : List Dw} {x : Dw} (hr : M[j]? = some r) (hx : r[k]? = some x) : flat ((col M k).take j) ++ fl x = flat ((col M k).take (j + 1)) := by
  have e : (col M k)[j]? = some x := by
    rw [col, List.getElem?_map, hr]
    simp [List.getD, hx]
  rw [List.take_add_one, e, flat_app]
  simp [flat]
attribute [local irreducible] World.cell?
set_option maxRecDepth 100000 in
set_option maxHeartbeats 1600000 in
theorem scolumn (B C : Nat) (v : Value) (M : List (List Dw)) (k : Nat) (w : World) (hv : DSM w B C v M) (hk : ∀ r ∈ M, k < r.length) (hn : M.length ≤ 1048576) (hk2 : k ≤ 1048576) :
    Calls Tryz.prog 60 #[v, .int .i64 k] w fun e w' => ∃ u, e = .returned u ∧ DSl w' w.heap.size u (col M k) ∧ Below w.heap.size w w' := by
  obtain ⟨i0, hi, hz0, hz1, hz2⟩ := info_parts infoDw
  obtain ⟨a, cap, rfl, hcap, hr⟩ := hv
  have Hr := Lib.hid hr
  clear hr
  have Hk := Lib.hid hk
  clear hk
  go_enter Tryz.func60, Tryz.ntmps60
  go_wp2_with fail
  go_loopg [5, 6] M.length (fun n out i wr => ∃ j : Nat, n = M.length - j ∧ j ≤ M.length ∧ i = .int .i64 j ∧ Hid (wr.ownsRow w.heap.size 83 5 out j (flat ((col M k).take j))) ∧ Hid (Below w.heap.size w wr))
  case atStart => exact ⟨0, rfl, Nat.zero_le _, rfl, own_new rfl, (Below.refl _ _).alloc (Nat.le_refl _) _⟩
  case round =>
    obtain ⟨j, rfl, hj, rfl, Hown, Hb⟩ := hrel
    by_cases hlt : j < M.length
    · obtain ⟨g, rfl, _, _, hrow⟩ := Hr.out (by omega)
      obtain ⟨r, hr⟩ : ∃ r, M[j]? = some r := ⟨M[j], List.getElem?_eq_getElem hlt⟩
      have hkr := Hk.out r (List.mem_of_getElem? hr)
      obtain ⟨x, hx⟩ : ∃ x, r[k]? = some x := ⟨r[k], List.getElem?_eq_getElem hkr⟩
      have r1 := hrow.block (Hb.out.block _ hrow.lt) fun k _ _ hk => Hb.out.block k hk
      obtain ⟨p, pc, c0, hd1⟩ := r1.cell hr
      obtain ⟨p', pc', he, hpc, hd2⟩ := hd1
      obtain ⟨g2, hp, _, _, hrow2⟩ := hd2 (by omega)
      injection he with he1 he2 he3
      subst he1 he3 hp
      obtain ⟨d0, d1, d2, d3, d4⟩ := hrow2.cells hx
      have Hstep := Lib.hid (col_step hr hx)
      have hgl := r1.lt
      have hgl2 := hrow2.lt
      have hs := Hb.out.size
      clear hd2 r1 hrow hrow2 hr hx he2
      go_wp2_with (first
        | (at_builtin; refine wpList_append_own _ rfl _ _ 57 rfl w.heap.size 83 i0 (.agg #[.int .i64 0, .int .i64 0, .int .i64 0, .int .i64 0, .int .i64 0]) 5 40 Tryz.underlying57 hi hz0 hz1 hz2 rfl (by decide) _ _ _ rfl (Hown.out.alloc _) ⟨wr.heap.size, 0, none⟩ 1 1 (fl x) rfl rfl (fl_new _ _ _) (fl_plain _) ?d3 ?d4 ?d5 ?_))
      case d3 => unfold maxLen; omega
      case d4 => omega
      case d5 => first | omega | (simp; omega) | (simp; omega)
      intro v' w4 hown' hgrow _
      have HB4 := Lib.hid ((Hb.out.alloc hs (.cells #[.int .i64 x.n.a, .int .i64 x.n.b, .int .i64 x.n.c, .int .i64 x.n.d, .int .i64 x.e] 83)).grown hgrow (by simp; omega) (fun q hq => by have := Hown.out.lt q hq; omega))
      rw [Hstep.out] at hown'
      have Hown4 := Lib.hid hown'
      clear hown' hgrow
      go_wp2_with fail
      go_roundg (M.length - (j + 1))
      case measure => omega
      case rel => exact ⟨j + 1, rfl, by omega, by go_num, Hown4.out, HB4⟩
    · obtain rfl : j = M.length := by omega
      have hown := Hown.out
      rw [show M.length = (col M k).length from (col_len M k).symm, List.take_length] at hown
      have Hd := Lib.hid (DSl.of_own hown)
      clear hown
      go_wp2_with fail
      go_ret
      exact ⟨_, rfl, Hd.out, Hb.out⟩
theorem colsM_at {L : List (List Dw)} {j : Nat} (hj : j < L.length) : (colsM L).take (j + 1) = (colsM L).take j ++ [col L j] := by
  rw [List.take_add_one, colsM, List.getElem?_map, List.getElem?_range hj]
  rfl
set_option maxRecDepth 100000 in
set_option maxHeartbeats 1600000 in
theorem scolumns (B C : Nat) (v : Value) (L : List (List Dw)) (w : World) (hv : DSM w B C v L) (hk : ∀ r ∈ L, L.length ≤ r.length) (hn : L.length ≤ 1048576) :
    Calls Tryz.prog 42 #[v] w fun e w' => ∃ u, e = .returned u ∧ DSM w' w.heap.size w'.heap.size u (colsM L) ∧ Below w.heap.size w w' := by
  obtain ⟨i0, hi, hz0, hz1, hz2⟩ := info_parts infoDs
  have Hv := Lib.hid hv
  have Hk := Lib.hid hk
  clear hk
  have Hc := Lib.hid (fun (j : Nat) (hj : j < L.length) W (h : DSM W B C v L) => scolumn B C v L j W h (fun r hr => Nat.lt_of_lt_of_le hj (Hk.out r hr)) hn (by omega))
  obtain ⟨a, cap, rfl, hcap, -⟩ := hv
  clear Hk
  go_enter Tryz.func42, Tryz.ntmps42
  go_wp2_with fail
  go_loopg [3, 4] L.length (fun n out i wr => ∃ (j : Nat) (vs : List Value), n = L.length - j ∧ j ≤ L.length ∧ i = .int .i64 j ∧ Hid (wr.ownsRow w.heap.size 57 1 out j vs) ∧ Hid (RwS wr w.heap.size wr.heap.size vs ((colsM L).take j)) ∧ Hid (Below w.heap.size w wr))
  case atStart => exact ⟨0, [], rfl, Nat.zero_le _, rfl, ownM_new rfl, RwS.nil, (Below.refl _ _).alloc (Nat.le_refl _) _⟩
  case round =>
    obtain ⟨j, vs, rfl, hj, rfl, Hown, Hrows, Hb⟩ := hrel
    by_cases hlt : j < L.length
    · have Hv1 := Lib.hid (Hv.out.block fun k _ _ hk => Hb.out.block k hk)
      have Hc1 := Lib.hid (Hc.out j hlt wr Hv1.out)
      clear Hv1
      have hs := Hb.out.size
      go_wp2_with fail
      refine (Hc1.out).mono ?_
      rintro e w2 ⟨u, rfl, hd, hb2⟩
      have Hown2 := Lib.hid (row_below Hown.out hb2)
      have Hrows2 := Lib.hid (Hrows.out.snoc hd.upto hs hb2.size fun k _ _ hk => hb2.block k hk)
      have Hb2 := Lib.hid (Hb.out.trans (hb2.mono hs))
      have hs2 := Hb2.out.size
      obtain ⟨p, pc, rfl, -, -⟩ := hd
      clear hb2 Hown Hrows Hb Hc1
      go_wp2_with (first
        | (at_builtin; refine wpList_append_own _ rfl _ _ 34 rfl w.heap.size 57 i0 (.slice none 0 0) 1 24 Tryz.underlying34 hi hz0 hz1 hz2 rfl (by decide) _ _ _ rfl (Hown2.out.alloc _) ⟨w2.heap.size, 0, none⟩ 1 1 [.slice p (col L j).length pc] rfl rfl (slice_new _ _ _) (by intro u hu; simp at hu; subst hu; rfl) ?d3 ?d4 ?d5 ?_))
      case d3 => unfold maxLen; omega
      case d4 => omega
      case d5 => first | omega | (simp; omega)
      intro v' w4 hown' hgrow _
      have HB4 := Lib.hid ((Hb2.out.alloc hs2 (.cells #[.slice p (col L j).length pc] 57)).grown hgrow (by simp; omega) (fun q hq => by have := Hown2.out.lt q hq; omega))
      have Hrows4 := Lib.hid (((Hrows2.out.block fun k _ _ hk => Below.heap_alloc _ _ _ hk).grown (Hown2.out.alloc _) hgrow).upto)
      have Hown4 := Lib.hid hown'
      clear hown' hgrow
      go_wp2_with fail
      go_roundg (L.length - (j + 1))
      case measure => omega
      case rel => exact ⟨j + 1, _, rfl, by omega, by go_num, Hown4.out, by rw [colsM_at hlt]; exact Hrows4, HB4⟩
    · obtain rfl : j = L.length := by omega
      have hown := Hown.out
      have hrows := Hrows.out
      rw [show L.length = (colsM L).length from (colsM_len L).symm] at hown hrows
      rw [List.take_length] at hrows
      have Hd := Lib.hid (DSM.of_own hown hrows (Nat.le_refl _))
      clear hown hrows
      go_wp2_with fail
      go_ret
      exact ⟨_, rfl, Hd.out, Hb.out⟩
end Go.Proofs.YtckfklpgnneodaaGreat
namespace Go.Proofs.YtckfklpgnneodaaGreat
open Go.RowKit
attribute [local irreducible] World.cell?
end Go.Proofs.YtckfklpgnneodaaGreat
namespace Go.Proofs.YtckfklpgnneodaaGreat
end Go.Proofs.YtckfklpgnneodaaGreat
namespace Go.Proofs.YtckfklpgnneodaaGreat
theorem qc_pow {n : Nat} (h : 0 < qc n) : 1 ≤ qc n ∧ qc n ≤ 4 ∧ n = 2 ^ (qc n).toNat := by
  have hl := qc_len h
  have : n = 2 ∨ n = 4 ∨ n = 8 ∨ n = 16 := by
    unfold qc at h
    (repeat' split at h) <;> omega
  rcases this with rfl | rfl | rfl | rfl <;> decide
theorem basis_eq {n j : Nat} (h : 0 < qc n) (hj : j < n) : basisL (qc n) (j : Int) = (List.replicate n .zero).set j oneD := by
  obtain ⟨h1, h4, hp⟩ := qc_pow h
  unfold basisL
  rw [if_pos ⟨h1, h4, by omega, by have : ((2 ^ (qc n).toNat : Nat) : Int) = 2 ^ (qc n).toNat := by simp
                                   omega⟩, ← hp, Int.toNat_natCast]
theorem basis_st {n j : Nat} (h : 0 < qc n) (hj : j < n) : stB (basisL (qc n) (j : Int)) = true ∧ (basisL (qc n) (j : Int)).length = n := by
  rw [basis_eq h hj]
  refine ⟨stB_iff.2 ⟨fun x hx => ?_, by simpa using h⟩, by simp⟩
  rcases List.mem_or_eq_of_mem_set hx with hx | rfl
  · rw [(List.mem_replicate.1 hx).2]; decide
  · exact oneD_ok
end Go.Proofs.YtckfklpgnneodaaGreat
namespace Go.Proofs.YtckfklpgnneodaaGreat
open Go.RowKit
theorem rep_at {N k : Nat} (h : k < N) : (List.replicate N Dw.zero)[k]? = some .zero := by rw [List.getElem?_replicate, if_pos h]
attribute [local irreducible] World.cell?
set_option maxRecDepth 100000 in
set_option maxHeartbeats 1600000 in
theorem sbasis1 (k : Nat) (w : World) (hk : k < 2) :
    Calls Tryz.prog 41 #[.int .i64 1, .int .i64 k] w fun e w' => ∃ v, e = .returned v ∧ DSl w' w.heap.size v ((List.replicate 2 Dw.zero).set k oneD) ∧ Below w.heap.size w w' := by
  obtain ⟨i0, hi, hz0, hz1, hz2⟩ := info_parts infoDw
  have H1 := Lib.hid (fun w => lin_any 1 1 4 true w (by decide))
  have H2 := Lib.hid (fun w => lin_any k 0 1 true w (by simp; omega))
  have Ho := Lib.hid (fun w => sone_any w)
  go_enter Tryz.func41, Tryz.ntmps41
  go_wp2_with fail
  refine (H1.out _).mono ?_
  rintro e w1 ⟨rfl, rfl⟩
  go_wp2_with fail
  refine (H2.out _).mono ?_
  rintro e w1 ⟨rfl, rfl⟩
  go_wp2_with (first | (at_make; refine wpList_make_full _ rfl _ _ 57 rfl w.heap.size 83 i0 (.agg #[.int .i64 0, .int .i64 0, .int .i64 0, .int .i64 0, .int .i64 0]) 5 Tryz.underlying57 hi hz0 hz1 .i64 .i64 2 2 2 rfl rfl rfl rfl (by rw [hz2]; omega) (by unfold maxLen; omega) (Nat.le_refl _) ?_))
  intro w1 hown hgrow
  have hb1 : Below w.heap.size w w1 := (Below.refl _ _).grown hgrow (Nat.le_refl _) (fun k hk => by cases hk)
  have hrow1 : DRow w1 w.heap.size (List.replicate 2 .zero) := by
    rcases hown.2 with ⟨h, _⟩ | ⟨g, cap, cur, hv, hb, hg, _, _, hs, ht⟩
    · cases h
    · obtain ⟨rfl, rfl⟩ : g = w.heap.size ∧ cap = 2 := by injection hv with hv _ hv2; injection hv with hv; injection hv with hv; exact ⟨hv.symm, hv2.symm⟩
      exact ⟨cur, hg, by rw [List.length_replicate, ht]; exact made_flat 2⟩
  have Hb1 := Lib.hid hb1
  have Hrow1 := Lib.hid hrow1
  clear hown hgrow hb1 hrow1
  go_wp2_with fail
  refine (Ho.out _).mono ?_
  rintro e w2 ⟨rfl, hb2⟩
  have hr2 := Hrow1.out.below hb2 Hrow1.out.lt
  obtain ⟨e0, e1, e2, e3, e4⟩ := hr2.cells (rep_at hk)
  have f1 := fun o => hr2.free o
  have Hr3 := Lib.hid (hr2.put k (by simpa using hk) oneD)
  have Hb2 := Lib.hid (Hb1.out.trans (hb2.mono Hb1.out.size))
  clear hr2 hb2 Hrow1 H1 H2 Ho
  go_wp2_with fail
  go_ret
  refine ⟨_, rfl, DSl.mk (by simp) (Nat.le_refl _) (Nat.le_refl _) Hr3.out, ?_⟩
  have := Hb2.out
  go_grown
set_option maxRecDepth 100000 in
set_option maxHeartbeats 1600000 in
theorem sbasis2 (k : Nat) (w : World) (hk : k < 4) :
    Calls Tryz.prog 41 #[.int .i64 2, .int .i64 k] w fun e w' => ∃ v, e = .returned v ∧ DSl w' w.heap.size v ((List.replicate 4 Dw.zero).set k oneD) ∧ Below w.heap.size w w' := by
  obtain ⟨i0, hi, hz0, hz1, hz2⟩ := info_parts infoDw
  have H1 := Lib.hid (fun w => lin_any 2 1 4 true w (by decide))
  have H2 := Lib.hid (fun w => lin_any k 0 3 true w (by simp; omega))
  have Ho := Lib.hid (fun w => sone_any w)
  go_enter Tryz.func41, Tryz.ntmps41
  go_wp2_with fail
  refine (H1.out _).mono ?_
  rintro e w1 ⟨rfl, rfl⟩
  go_wp2_with fail
  refine (H2.out _).mono ?_
  rintro e w1 ⟨rfl, rfl⟩
  go_wp2_with (first | (at_make; refine wpList_make_full _ rfl _ _ 57 rfl w.heap.size 83 i0 (.agg #[.int .i64 0, .int .i64 0, .int .i64 0, .int .i64 0, .int .i64 0]) 5 Tryz.underlying57 hi hz0 hz1 .i64 .i64 4 4 4 rfl rfl rfl rfl (by rw [hz2]; omega) (by unfold maxLen; omega) (Nat.le_refl _) ?_))
  intro w1 hown hgrow
  have hb1 : Below w.heap.size w w1 := (Below.refl _ _).grown hgrow (Nat.le_refl _) (fun k hk => by cases hk)
  have hrow1 : DRow w1 w.heap.size (List.replicate 4 .zero) := by
    rcases hown.2 with ⟨h, _⟩ | ⟨g, cap, cur, hv, hb, hg, _, _, hs, ht⟩
    · cases h
    · obtain ⟨rfl, rfl⟩ : g = w.heap.size ∧ cap = 4 := by injection hv with hv _ hv2; injection hv with hv; injection hv with hv; exact ⟨hv.symm, hv2.symm⟩
      exact ⟨cur, hg, by rw [List.length_replicate, ht]; exact made_flat 4⟩
  have Hb1 := Lib.hid hb1
  have Hrow1 := Lib.hid hrow1
  clear hown hgrow hb1 hrow1
  go_wp2_with fail
  refine (Ho.out _).mono ?_
  rintro e w2 ⟨rfl, hb2⟩
  have hr2 := Hrow1.out.below hb2 Hrow1.out.lt
  obtain ⟨e0, e1, e2, e3, e4⟩ := hr2.cells (rep_at hk)
  have f1 := fun o => hr2.free o
  have Hr3 := Lib.hid (hr2.put k (by simpa using hk) oneD)
  have Hb2 := Lib.hid (Hb1.out.trans (hb2.mono Hb1.out.size))
  clear hr2 hb2 Hrow1 H1 H2 Ho
  go_wp2_with fail
  go_ret
  refine ⟨_, rfl, DSl.mk (by simp) (Nat.le_refl _) (Nat.le_refl _) Hr3.out, ?_⟩
  have := Hb2.out
  go_grown
set_option maxRecDepth 100000 in
set_option maxHeartbeats 1600000 in
theorem sbasis3 (k : Nat) (w : World) (hk : k < 8) :
    Calls Tryz.prog 41 #[.int .i64 3, .int .i64 k] w fun e w' => ∃ v, e = .returned v ∧ DSl w' w.heap.size v ((List.replicate 8 Dw.zero).set k oneD) ∧ Below w.heap.size w w' := by
  obtain ⟨i0, hi, hz0, hz1, hz2⟩ := info_parts infoDw
  have H1 := Lib.hid (fun w => lin_any 3 1 4 true w (by decide))
  have H2 := Lib.hid (fun w => lin_any k 0 7 true w (by simp; omega))
  have Ho := Lib.hid (fun w => sone_any w)
  go_enter Tryz.func41, Tryz.ntmps41
  go_wp2_with fail
  refine (H1.out _).mono ?_
  rintro e w1 ⟨rfl, rfl⟩
  go_wp2_with fail
  refine (H2.out _).mono ?_
  rintro e w1 ⟨rfl, rfl⟩
  go_wp2_with (first | (at_make; refine wpList_make_full _ rfl _ _ 57 rfl w.heap.size 83 i0 (.agg #[.int .i64 0, .int .i64 0, .int .i64 0, .int .i64 0, .int .i64 0]) 5 Tryz.underlying57 hi hz0 hz1 .i64 .i64 8 8 8 rfl rfl rfl rfl (by rw [hz2]; omega) (by unfold maxLen; omega) (Nat.le_refl _) ?_))
  intro w1 hown hgrow
  have hb1 : Below w.heap.size w w1 := (Below.refl _ _).grown hgrow (Nat.le_refl _) (fun k hk => by cases hk)
  have hrow1 : DRow w1 w.heap.size (List.replicate 8 .zero) := by
    rcases hown.2 with ⟨h, _⟩ | ⟨g, cap, cur, hv, hb, hg, _, _, hs, ht⟩
    · cases h
    · obtain ⟨rfl, rfl⟩ : g = w.heap.size ∧ cap = 8 := by injection hv with hv _ hv2; injection hv with hv; injection hv with hv; exact ⟨hv.symm, hv2.symm⟩
      exact ⟨cur, hg, by rw [List.length_replicate, ht]; exact made_flat 8⟩
  have Hb1 := Lib.hid hb1
  have Hrow1 := Lib.hid hrow1
  clear hown hgrow hb1 hrow1
  go_wp2_with fail
  refine (Ho.out _).mono ?_
  rintro e w2 ⟨rfl, hb2⟩
  have hr2 := Hrow1.out.below hb2 Hrow1.out.lt
  obtain ⟨e0, e1, e2, e3, e4⟩ := hr2.cells (rep_at hk)
  have f1 := fun o => hr2.free o
  have Hr3 := Lib.hid (hr2.put k (by simpa using hk) oneD)
  have Hb2 := Lib.hid (Hb1.out.trans (hb2.mono Hb1.out.size))
  clear hr2 hb2 Hrow1 H1 H2 Ho
  go_wp2_with fail
  go_ret
  refine ⟨_, rfl, DSl.mk (by simp) (Nat.le_refl _) (Nat.le_refl _) Hr3.out, ?_⟩
  have := Hb2.out
  go_grown
set_option maxRecDepth 100000 in
set_option maxHeartbeats 1600000 in
theorem sbasis4 (k : Nat) (w : World) (hk : k < 16) :
    Calls Tryz.prog 41 #[.int .i64 4, .int .i64 k] w fun e w' => ∃ v, e = .returned v ∧ DSl w' w.heap.size v ((List.replicate 16 Dw.zero).set k oneD) ∧ Below w.heap.size w w' := by
  obtain ⟨i0, hi, hz0, hz1, hz2⟩ := info_parts infoDw
  have H1 := Lib.hid (fun w => lin_any 4 1 4 true w (by decide))
  have H2 := Lib.hid (fun w => lin_any k 0 15 true w (by simp; omega))
  have Ho := Lib.hid (fun w => sone_any w)
  go_enter Tryz.func41, Tryz.ntmps41
  go_wp2_with fail
  refine (H1.out _).mono ?_
  rintro e w1 ⟨rfl, rfl⟩
  go_wp2_with fail
  refine (H2.out _).mono ?_
  rintro e w1 ⟨rfl, rfl⟩
  go_wp2_with (first | (at_make; refine wpList_make_full _ rfl _ _ 57 rfl w.heap.size 83 i0 (.agg #[.int .i64 0, .int .i64 0, .int .i64 0, .int .i64 0, .int .i64 0]) 5 Tryz.underlying57 hi hz0 hz1 .i64 .i64 16 16 16 rfl rfl rfl rfl (by rw [hz2]; omega) (by unfold maxLen; omega) (Nat.le_refl _) ?_))
  intro w1 hown hgrow
  have hb1 : Below w.heap.size w w1 := (Below.refl _ _).grown hgrow (Nat.le_refl _) (fun k hk => by cases hk)
  have hrow1 : DRow w1 w.heap.size (List.replicate 16 .zero) := by
    rcases hown.2 with ⟨h, _⟩ | ⟨g, cap, cur, hv, hb, hg, _, _, hs, ht⟩
    · cases h
    · obtain ⟨rfl, rfl⟩ : g = w.heap.size ∧ cap = 16 := by injection hv with hv _ hv2; injection hv with hv; injection hv with hv; exact ⟨hv.symm, hv2.symm⟩
      exact ⟨cur, hg, by rw [List.length_replicate, ht]; exact made_flat 16⟩
  have Hb1 := Lib.hid hb1
  have Hrow1 := Lib.hid hrow1
  clear hown hgrow hb1 hrow1
  go_wp2_with fail
  refine (Ho.out _).mono ?_
  rintro e w2 ⟨rfl, hb2⟩
  have hr2 := Hrow1.out.below hb2 Hrow1.out.lt
  obtain ⟨e0, e1, e2, e3, e4⟩ := hr2.cells (rep_at hk)
  have f1 := fun o => hr2.free o
  have Hr3 := Lib.hid (hr2.put k (by simpa using hk) oneD)
  have Hb2 := Lib.hid (Hb1.out.trans (hb2.mono Hb1.out.size))
  clear hr2 hb2 Hrow1 H1 H2 Ho
  go_wp2_with fail
  go_ret
  refine ⟨_, rfl, DSl.mk (by simp) (Nat.le_refl _) (Nat.le_refl _) Hr3.out, ?_⟩
  have := Hb2.out
  go_grown
set_option maxRecDepth 100000 in
set_option maxHeartbeats 800000 in
theorem sbasis_no (n i : Int) (w : World) (h : ¬ (1 ≤ n ∧ n ≤ 4 ∧ 0 ≤ i ∧ i ≤ 2 ^ n.toNat - 1)) :
    Calls Tryz.prog 41 #[.int .i64 n, .int .i64 i] w fun e w' => ∃ v, e = .returned v ∧ DSl w' w.heap.size v [] ∧ Below w.heap.size w w' := by
  by_cases hn : 1 ≤ n ∧ n ≤ 4
  · have H1 := Lib.hid (fun w => lin_any n 1 4 true w (by simp; omega))
    rcases (show (n = 1 ∧ ¬ (0 ≤ i ∧ i ≤ 1)) ∨ (n = 2 ∧ ¬ (0 ≤ i ∧ i ≤ 3)) ∨ (n = 3 ∧ ¬ (0 ≤ i ∧ i ≤ 7)) ∨ (n = 4 ∧ ¬ (0 ≤ i ∧ i ≤ 15)) by
      rcases (show n = 1 ∨ n = 2 ∨ n = 3 ∨ n = 4 by omega) with rfl | rfl | rfl | rfl
      · exact .inl ⟨rfl, fun k => h ⟨by omega, by omega, k.1, k.2⟩⟩
      · exact .inr (.inl ⟨rfl, fun k => h ⟨by omega, by omega, k.1, k.2⟩⟩)
      · exact .inr (.inr (.inl ⟨rfl, fun k => h ⟨by omega, by omega, k.1, k.2⟩⟩))
      · exact .inr (.inr (.inr ⟨rfl, fun k => h ⟨by omega, by omega, k.1, k.2⟩⟩))) with ⟨rfl, hi⟩ | ⟨rfl, hi⟩ | ⟨rfl, hi⟩ | ⟨rfl, hi⟩
    · have H2 := Lib.hid (fun w => lin_any i 0 1 false w (by simpa using hi))
      clear h hi hn
      go_enter Tryz.func41, Tryz.ntmps41
      go_wp2_with fail
      refine (H1.out _).mono ?_
      rintro e w1 ⟨rfl, rfl⟩
      go_wp2_with fail
      refine (H2.out _).mono ?_
      rintro e w1 ⟨rfl, rfl⟩
      go_wp2_with fail
      go_ret
      exact ⟨_, rfl, DSl.nil, by go_grown⟩
    · have H2 := Lib.hid (fun w => lin_any i 0 3 false w (by simpa using hi))
      clear h hi hn
      go_enter Tryz.func41, Tryz.ntmps41
      go_wp2_with fail
      refine (H1.out _).mono ?_
      rintro e w1 ⟨rfl, rfl⟩
      go_wp2_with fail
      refine (H2.out _).mono ?_
      rintro e w1 ⟨rfl, rfl⟩
      go_wp2_with fail
      go_ret
      exact ⟨_, rfl, DSl.nil, by go_grown⟩
    · have H2 := Lib.hid (fun w => lin_any i 0 7 false w (by simpa using hi))
      clear h hi hn
      go_enter Tryz.func41, Tryz.ntmps41
      go_wp2_with fail
      refine (H1.out _).mono ?_
      rintro e w1 ⟨rfl, rfl⟩
      go_wp2_with fail
      refine (H2.out _).mono ?_
      rintro e w1 ⟨rfl, rfl⟩
      go_wp2_with fail
      go_ret
      exact ⟨_, rfl, DSl.nil, by go_grown⟩
    · have H2 := Lib.hid (fun w => lin_any i 0 15 false w (by simpa using hi))
      clear h hi hn
      go_enter Tryz.func41, Tryz.ntmps41
      go_wp2_with fail
      refine (H1.out _).mono ?_
      rintro e w1 ⟨rfl, rfl⟩
      go_wp2_with fail
      refine (H2.out _).mono ?_
      rintro e w1 ⟨rfl, rfl⟩
      go_wp2_with fail
      go_ret
      exact ⟨_, rfl, DSl.nil, by go_grown⟩
  · have H1 := Lib.hid (fun w => lin_any n 1 4 false w (by simpa using hn))
    clear h hn
    go_enter Tryz.func41, Tryz.ntmps41
    go_wp2_with fail
    refine (H1.out _).mono ?_
    rintro e w1 ⟨rfl, rfl⟩
    go_wp2_with fail
    go_ret
    exact ⟨_, rfl, DSl.nil, by go_grown⟩
theorem sbasis (n i : Int) (w : World) :
    Calls Tryz.prog 41 #[.int .i64 n, .int .i64 i] w fun e w' => ∃ v, e = .returned v ∧ DSl w' w.heap.size v (basisL n i) ∧ Below w.heap.size w w' := by
  by_cases h : 1 ≤ n ∧ n ≤ 4 ∧ 0 ≤ i ∧ i ≤ 2 ^ n.toNat - 1
  · rw [show basisL n i = (List.replicate (2 ^ n.toNat) .zero).set i.toNat oneD from if_pos h]
    obtain ⟨h0, h1, h2, h3⟩ := h
    obtain ⟨k, rfl⟩ : ∃ k : Nat, i = k := ⟨i.toNat, by omega⟩
    rcases (show n = 1 ∨ n = 2 ∨ n = 3 ∨ n = 4 by omega) with rfl | rfl | rfl | rfl
    · exact sbasis1 k w (by have : (k : Int) ≤ 1 := h3; omega)
    · exact sbasis2 k w (by have : (k : Int) ≤ 3 := h3; omega)
    · exact sbasis3 k w (by have : (k : Int) ≤ 7 := h3; omega)
    · exact sbasis4 k w (by have : (k : Int) ≤ 15 := h3; omega)
  · rw [show basisL n i = [] from if_neg h]
    exact sbasis_no n i w h
end Go.Proofs.YtckfklpgnneodaaGreat
namespace Go.Proofs.YtckfklpgnneodaaGreat
open Go.RowKit
attribute [local irreducible] World.cell?
end Go.Proofs.YtckfklpgnneodaaGreat
namespace Go.Proofs.YtckfklpgnneodaaGreat
open Go.RowKit
attribute [local irreducible] World.cell?
end Go.Proofs.YtckfklpgnneodaaGreat
namespace Go.Proofs.YtckfklpgnneodaaGreat
open Go.RowKit
attribute [local irreducible] World.cell?
end Go.Proofs.YtckfklpgnneodaaGreat
namespace Go.Proofs.YtckfklpgnneodaaGreat
open Go.RowKit
theorem idM_yes {n : Int} (h : 1 ≤ n ∧ n ≤ 4) : idM n = (List.range (2 ^ n.toNat)).map fun (i : Nat) => basisL n (i : Int) := if_pos h
theorem idM_no {n : Int} (h : ¬ (1 ≤ n ∧ n ≤ 4)) : idM n = [] := if_neg h
theorem idM_len {n : Int} (h : 1 ≤ n ∧ n ≤ 4) : (idM n).length = 2 ^ n.toNat := by rw [idM_yes h, List.length_map, List.length_range]
attribute [local irreducible] World.cell?
end Go.Proofs.YtckfklpgnneodaaGreat
namespace Go.Proofs.YtckfklpgnneodaaGreat
open Go.RowKit
theorem amps_rect {n : Nat} : ∀ {M : List (List Dw)}, (∀ r ∈ M, r.length = n) → amps M = M.length * n
  | [], _ => by simp [amps]
  | r :: M, h => by
    have h1 := amps_rect (M := M) fun s hs => h s (List.mem_cons_of_mem _ hs)
    have h2 := h r (List.mem_cons_self ..)
    unfold amps at *
    rw [List.map_cons, List.sum_cons, h1, h2, List.length_cons, Nat.succ_mul]
    omega
theorem basisL_len (n i : Int) : (basisL n i).length ≤ 16 := by
  unfold basisL
  split
  · rename_i h
    rw [List.length_set, List.length_replicate]
    rcases (show n = 1 ∨ n = 2 ∨ n = 3 ∨ n = 4 by omega) with rfl | rfl | rfl | rfl <;> decide
  · exact Nat.zero_le _
theorem amps_le16 : ∀ {M : List (List Dw)}, (∀ r ∈ M, r.length ≤ 16) → amps M ≤ M.length * 16
  | [], _ => by simp [amps]
  | r :: M, h => by
    have h1 := amps_le16 (M := M) fun s hs => h s (List.mem_cons_of_mem _ hs)
    have h2 := h r (List.mem_cons_self ..)
    unfold amps at *
    rw [List.map_cons, List.sum_cons, List.length_cons, Nat.succ_mul]
    omega
theorem idM_amps (n : Int) : (idM n).length ≤ 16 ∧ amps (idM n) ≤ 256 := by
  by_cases h : 1 ≤ n ∧ n ≤ 4
  · have hl := idM_len h
    have h16 : 2 ^ n.toNat ≤ 16 := by rcases (show n = 1 ∨ n = 2 ∨ n = 3 ∨ n = 4 by omega) with rfl | rfl | rfl | rfl <;> decide
    have h2 := amps_le16 (M := idM n) fun r hr => by
      rw [idM_yes h] at hr
      obtain ⟨i, _, rfl⟩ := List.mem_map.1 hr
      exact basisL_len n _
    exact ⟨by omega, by omega⟩
  · rw [idM_no h]; exact ⟨by decide, by decide⟩
attribute [local irreducible] World.cell?
end Go.Proofs.YtckfklpgnneodaaGreat
namespace Go.Proofs.YtckfklpgnneodaaGreat
end Go.Proofs.YtckfklpgnneodaaGreat
namespace Go.Proofs.YtckfklpgnneodaaGreat
open Go.RowKit
def amB (s x f : Dw) : Bool := dMulB x f && dAddB s (dMulV x f)
def amV (s x f : Dw) : Dw := if amB s x f then dAddV s (dMulV x f) else .zero
attribute [local irreducible] World.cell?
set_option maxRecDepth 100000 in
set_option maxHeartbeats 3200000 in
theorem iaddM (s x f : Dw) (w : World) (hs : EB s) (hx : EB x) (hf : EB f) :
    Calls Tryz.prog 82 #[(.agg #[.int .i64 s.n.a, .int .i64 s.n.b, .int .i64 s.n.c, .int .i64 s.n.d, .int .i64 s.e]), (.agg #[.int .i64 x.n.a, .int .i64 x.n.b, .int .i64 x.n.c, .int .i64 x.n.d, .int .i64 x.e]), (.agg #[.int .i64 f.n.a, .int .i64 f.n.b, .int .i64 f.n.c, .int .i64 f.n.d, .int .i64 f.e])] w fun e w' => e = .returned (.tuple #[(.agg #[.int .i64 (amV s x f).n.a, .int .i64 (amV s x f).n.b, .int .i64 (amV s x f).n.c, .int .i64 (amV s x f).n.d, .int .i64 (amV s x f).e]), .bool (amB s x f)]) ∧ Below w.heap.size w w' := by
  have Hm := Lib.hid (fun w => imulD_any x f w hx.1 hx.2 hf.1 hf.2)
  have hp := eb_mul x f
  have Ha := Lib.hid (fun w => iaddD_any s (dMulV x f) w hs.1 hs.2 hp.1 hp.2)
  have HB := Lib.hid (show amB s x f = (dMulB x f && dAddB s (dMulV x f)) from rfl)
  have HV := Lib.hid (show dMulB x f = true → amV s x f = dAddV s (dMulV x f) from fun h => by
    unfold amV amB
    rw [h, Bool.true_and]
    split
    · rfl
    · rename_i h2
      unfold dAddV
      rw [if_neg h2])
  have HN := Lib.hid (show dMulB x f = false → amV s x f = .zero from fun h => by unfold amV amB; rw [h]; rfl)
  clear hs hx hf hp
  generalize amV s x f = R at *
  generalize amB s x f = T at *
  generalize dAddB s (dMulV x f) = u at *
  generalize dAddV s (dMulV x f) = r at *
  generalize dMulV x f = P at *
  generalize dMulB x f = t at *
  have Hr0_0 := Lib.hid (alloc_blk (.cells #[.int .i64 0, .int .i64 0, .int .i64 0, .int .i64 0, .int .i64 0] 83) (alloc_blk (.cells #[.int .i64 f.n.a, .int .i64 f.n.b, .int .i64 f.n.c, .int .i64 f.n.d, .int .i64 f.e] 83) (alloc_blk (.cells #[.int .i64 x.n.a, .int .i64 x.n.b, .int .i64 x.n.c, .int .i64 x.n.d, .int .i64 x.e] 83) (heap_alloc_new w (.cells #[.int .i64 s.n.a, .int .i64 s.n.b, .int .i64 s.n.c, .int .i64 s.n.d, .int .i64 s.e] 83)))))
  have Hr0_1 := Lib.hid (alloc_blk (.cells #[.int .i64 0, .int .i64 0, .int .i64 0, .int .i64 0, .int .i64 0] 83) (alloc_blk (.cells #[.int .i64 f.n.a, .int .i64 f.n.b, .int .i64 f.n.c, .int .i64 f.n.d, .int .i64 f.e] 83) (show ((w.alloc (.cells #[.int .i64 s.n.a, .int .i64 s.n.b, .int .i64 s.n.c, .int .i64 s.n.d, .int .i64 s.e] 83)).alloc (.cells #[.int .i64 x.n.a, .int .i64 x.n.b, .int .i64 x.n.c, .int .i64 x.n.d, .int .i64 x.e] 83)).heap[w.heap.size + 1]? = some (.cells #[.int .i64 x.n.a, .int .i64 x.n.b, .int .i64 x.n.c, .int .i64 x.n.d, .int .i64 x.e] 83 (0, 0)) from by simpa using heap_alloc_new (w.alloc (.cells #[.int .i64 s.n.a, .int .i64 s.n.b, .int .i64 s.n.c, .int .i64 s.n.d, .int .i64 s.e] 83)) (.cells #[.int .i64 x.n.a, .int .i64 x.n.b, .int .i64 x.n.c, .int .i64 x.n.d, .int .i64 x.e] 83))))
  have Hr0_2 := Lib.hid (alloc_blk (.cells #[.int .i64 0, .int .i64 0, .int .i64 0, .int .i64 0, .int .i64 0] 83) (show (((w.alloc (.cells #[.int .i64 s.n.a, .int .i64 s.n.b, .int .i64 s.n.c, .int .i64 s.n.d, .int .i64 s.e] 83)).alloc (.cells #[.int .i64 x.n.a, .int .i64 x.n.b, .int .i64 x.n.c, .int .i64 x.n.d, .int .i64 x.e] 83)).alloc (.cells #[.int .i64 f.n.a, .int .i64 f.n.b, .int .i64 f.n.c, .int .i64 f.n.d, .int .i64 f.e] 83)).heap[w.heap.size + 2]? = some (.cells #[.int .i64 f.n.a, .int .i64 f.n.b, .int .i64 f.n.c, .int .i64 f.n.d, .int .i64 f.e] 83 (0, 0)) from by simpa using heap_alloc_new ((w.alloc (.cells #[.int .i64 s.n.a, .int .i64 s.n.b, .int .i64 s.n.c, .int .i64 s.n.d, .int .i64 s.e] 83)).alloc (.cells #[.int .i64 x.n.a, .int .i64 x.n.b, .int .i64 x.n.c, .int .i64 x.n.d, .int .i64 x.e] 83)) (.cells #[.int .i64 f.n.a, .int .i64 f.n.b, .int .i64 f.n.c, .int .i64 f.n.d, .int .i64 f.e] 83)))
  have Hr0_3 := Lib.hid (show ((((w.alloc (.cells #[.int .i64 s.n.a, .int .i64 s.n.b, .int .i64 s.n.c, .int .i64 s.n.d, .int .i64 s.e] 83)).alloc (.cells #[.int .i64 x.n.a, .int .i64 x.n.b, .int .i64 x.n.c, .int .i64 x.n.d, .int .i64 x.e] 83)).alloc (.cells #[.int .i64 f.n.a, .int .i64 f.n.b, .int .i64 f.n.c, .int .i64 f.n.d, .int .i64 f.e] 83)).alloc (.cells #[.int .i64 0, .int .i64 0, .int .i64 0, .int .i64 0, .int .i64 0] 83)).heap[w.heap.size + 3]? = some (.cells #[.int .i64 0, .int .i64 0, .int .i64 0, .int .i64 0, .int .i64 0] 83 (0, 0)) from by simpa using heap_alloc_new (((w.alloc (.cells #[.int .i64 s.n.a, .int .i64 s.n.b, .int .i64 s.n.c, .int .i64 s.n.d, .int .i64 s.e] 83)).alloc (.cells #[.int .i64 x.n.a, .int .i64 x.n.b, .int .i64 x.n.c, .int .i64 x.n.d, .int .i64 x.e] 83)).alloc (.cells #[.int .i64 f.n.a, .int .i64 f.n.b, .int .i64 f.n.c, .int .i64 f.n.d, .int .i64 f.e] 83)) (.cells #[.int .i64 0, .int .i64 0, .int .i64 0, .int .i64 0, .int .i64 0] 83))
  cases t
  · obtain rfl : T = false := HB.out
    obtain rfl := HN.out rfl
    go_enter Tryz.func82, Tryz.ntmps82
    go_wp2_with fail
    refine (Hm.out _).mono ?_
    rintro e w1 ⟨rfl, hb1⟩
    have hr0 := below_blk hb1 (lt_of_block Hr0_0.out) Hr0_0.out
    have zg0 := lt_of_block hr0
    obtain ⟨c0_0, c0_1, c0_2, c0_3, c0_4⟩ := blk_cells5 hr0
    have Hr1_0 := Lib.hid (alloc_blk (.cells #[.int .i64 P.n.a, .int .i64 P.n.b, .int .i64 P.n.c, .int .i64 P.n.d, .int .i64 P.e] 83) hr0)
    have hr1 := below_blk hb1 (lt_of_block Hr0_1.out) Hr0_1.out
    have zg1 := lt_of_block hr1
    obtain ⟨c1_0, c1_1, c1_2, c1_3, c1_4⟩ := blk_cells5 hr1
    have Hr1_1 := Lib.hid (alloc_blk (.cells #[.int .i64 P.n.a, .int .i64 P.n.b, .int .i64 P.n.c, .int .i64 P.n.d, .int .i64 P.e] 83) hr1)
    have hr2 := below_blk hb1 (lt_of_block Hr0_2.out) Hr0_2.out
    have zg2 := lt_of_block hr2
    obtain ⟨c2_0, c2_1, c2_2, c2_3, c2_4⟩ := blk_cells5 hr2
    have Hr1_2 := Lib.hid (alloc_blk (.cells #[.int .i64 P.n.a, .int .i64 P.n.b, .int .i64 P.n.c, .int .i64 P.n.d, .int .i64 P.e] 83) hr2)
    have hr3 := below_blk hb1 (lt_of_block Hr0_3.out) Hr0_3.out
    have zg3 := lt_of_block hr3
    obtain ⟨c3_0, c3_1, c3_2, c3_3, c3_4⟩ := blk_cells5 hr3
    have f3 := fun o => free_at hr3 o
    have Hq1_3 := Lib.hid hr3
    have Hr1_3 := Lib.hid (alloc_blk (.cells #[.int .i64 P.n.a, .int .i64 P.n.b, .int .i64 P.n.c, .int .i64 P.n.d, .int .i64 P.e] 83) hr3)
    have hb1 := below_up (B := w.heap.size) (w := w) (by go_grown) hb1 (by simp <;> omega)
    have Hp1 := Lib.hid hb1
    have Hb1 := Lib.hid (Below.alloc hb1 (Below.size hb1) (.cells #[.int .i64 P.n.a, .int .i64 P.n.b, .int .i64 P.n.c, .int .i64 P.n.d, .int .i64 P.e] 83))
    have Hr1_4 := Lib.hid (heap_alloc_new w1 (.cells #[.int .i64 P.n.a, .int .i64 P.n.b, .int .i64 P.n.c, .int .i64 P.n.d, .int .i64 P.e] 83))
    clear hr0 hr1 hr2 hr3
    clear hb1
    go_wp2_with fail
    obtain ⟨k0, k1, k2, k3, k4⟩ := blk_cells5 (alloc_blk (.cells #[.int .i64 P.n.a, .int .i64 P.n.b, .int .i64 P.n.c, .int .i64 P.n.d, .int .i64 P.e] 83) (set5_at (u0 := .int .i64 0) (u1 := .int .i64 0) (u2 := .int .i64 0) (u3 := .int .i64 0) (u4 := .int .i64 0) Hq1_3.out))
    refine bodyPost_ret (v := .tuple #[(.agg #[.int .i64 Dw.zero.n.a, .int .i64 Dw.zero.n.b, .int .i64 Dw.zero.n.c, .int .i64 Dw.zero.n.d, .int .i64 Dw.zero.e]), .bool false]) (by simp only [results, Tryz.results82]; simp [go_sem, k0, k1, k2, k3, k4, Dw.zero, Zw.zero]) rfl ⟨rfl, ?_⟩
    have := Hp1.out
    go_grown
  · obtain rfl : T = u := HB.out
    obtain rfl := HV.out rfl
    go_enter Tryz.func82, Tryz.ntmps82
    go_wp2_with fail
    refine (Hm.out _).mono ?_
    rintro e w1 ⟨rfl, hb1⟩
    have hr0 := below_blk hb1 (lt_of_block Hr0_0.out) Hr0_0.out
    have zg0 := lt_of_block hr0
    obtain ⟨c0_0, c0_1, c0_2, c0_3, c0_4⟩ := blk_cells5 hr0
    have Hr1_0 := Lib.hid (alloc_blk (.cells #[.int .i64 P.n.a, .int .i64 P.n.b, .int .i64 P.n.c, .int .i64 P.n.d, .int .i64 P.e] 83) hr0)
    have hr1 := below_blk hb1 (lt_of_block Hr0_1.out) Hr0_1.out
    have zg1 := lt_of_block hr1
    obtain ⟨c1_0, c1_1, c1_2, c1_3, c1_4⟩ := blk_cells5 hr1
    have Hr1_1 := Lib.hid (alloc_blk (.cells #[.int .i64 P.n.a, .int .i64 P.n.b, .int .i64 P.n.c, .int .i64 P.n.d, .int .i64 P.e] 83) hr1)
    have hr2 := below_blk hb1 (lt_of_block Hr0_2.out) Hr0_2.out
    have zg2 := lt_of_block hr2
    obtain ⟨c2_0, c2_1, c2_2, c2_3, c2_4⟩ := blk_cells5 hr2
    have Hr1_2 := Lib.hid (alloc_blk (.cells #[.int .i64 P.n.a, .int .i64 P.n.b, .int .i64 P.n.c, .int .i64 P.n.d, .int .i64 P.e] 83) hr2)
    have hr3 := below_blk hb1 (lt_of_block Hr0_3.out) Hr0_3.out
    have zg3 := lt_of_block hr3
    obtain ⟨c3_0, c3_1, c3_2, c3_3, c3_4⟩ := blk_cells5 hr3
    have f3 := fun o => free_at hr3 o
    have Hq1_3 := Lib.hid hr3
    have Hr1_3 := Lib.hid (alloc_blk (.cells #[.int .i64 P.n.a, .int .i64 P.n.b, .int .i64 P.n.c, .int .i64 P.n.d, .int .i64 P.e] 83) hr3)
    have hb1 := below_up (B := w.heap.size) (w := w) (by go_grown) hb1 (by simp <;> omega)
    have Hp1 := Lib.hid hb1
    have Hb1 := Lib.hid (Below.alloc hb1 (Below.size hb1) (.cells #[.int .i64 P.n.a, .int .i64 P.n.b, .int .i64 P.n.c, .int .i64 P.n.d, .int .i64 P.e] 83))
    have Hr1_4 := Lib.hid (heap_alloc_new w1 (.cells #[.int .i64 P.n.a, .int .i64 P.n.b, .int .i64 P.n.c, .int .i64 P.n.d, .int .i64 P.e] 83))
    clear hr0 hr1 hr2 hr3
    clear hb1
    go_wp2_with fail
    refine (Ha.out _).mono ?_
    rintro e w2 ⟨rfl, hb2⟩
    clear zg0 c0_0 c0_1 c0_2 c0_3 c0_4 zg1 c1_0 c1_1 c1_2 c1_3 c1_4 zg2 c2_0 c2_1 c2_2 c2_3 c2_4 zg3 c3_0 c3_1 c3_2 c3_3 c3_4 f3
    have hr0 := below_blk hb2 (lt_of_block Hr1_0.out) Hr1_0.out
    have zg0 := lt_of_block hr0
    obtain ⟨c0_0, c0_1, c0_2, c0_3, c0_4⟩ := blk_cells5 hr0
    have Hr2_0 := Lib.hid hr0
    have hr1 := below_blk hb2 (lt_of_block Hr1_1.out) Hr1_1.out
    have zg1 := lt_of_block hr1
    obtain ⟨c1_0, c1_1, c1_2, c1_3, c1_4⟩ := blk_cells5 hr1
    have Hr2_1 := Lib.hid hr1
    have hr2 := below_blk hb2 (lt_of_block Hr1_2.out) Hr1_2.out
    have zg2 := lt_of_block hr2
    obtain ⟨c2_0, c2_1, c2_2, c2_3, c2_4⟩ := blk_cells5 hr2
    have Hr2_2 := Lib.hid hr2
    have hr3 := below_blk hb2 (lt_of_block Hr1_3.out) Hr1_3.out
    have zg3 := lt_of_block hr3
    obtain ⟨c3_0, c3_1, c3_2, c3_3, c3_4⟩ := blk_cells5 hr3
    have f3 := fun o => free_at hr3 o
    have Hq2_3 := Lib.hid hr3
    have Hr2_3 := Lib.hid hr3
    have hr4 := below_blk hb2 (lt_of_block Hr1_4.out) Hr1_4.out
    have zg4 := lt_of_block hr4
    obtain ⟨c4_0, c4_1, c4_2, c4_3, c4_4⟩ := blk_cells5 hr4
    have Hr2_4 := Lib.hid hr4
    have hb2 := below_nx Hb1.out hb2
    have Hp2 := Lib.hid hb2
    have Hb2 := Lib.hid hb2
    clear hr0 hr1 hr2 hr3 hr4
    clear hb2
    go_wp2_with fail
    obtain ⟨k0, k1, k2, k3, k4⟩ := blk_cells5 (set5_at (u0 := .int .i64 R.n.a) (u1 := .int .i64 R.n.b) (u2 := .int .i64 R.n.c) (u3 := .int .i64 R.n.d) (u4 := .int .i64 R.e) Hq2_3.out)
    refine bodyPost_ret (v := .tuple #[(.agg #[.int .i64 R.n.a, .int .i64 R.n.b, .int .i64 R.n.c, .int .i64 R.n.d, .int .i64 R.e]), .bool T]) (by simp only [results, Tryz.results82]; simp [go_sem, k0, k1, k2, k3, k4]) rfl ⟨rfl, ?_⟩
    have := Hp2.out
    go_grown
end Go.Proofs.YtckfklpgnneodaaGreat
