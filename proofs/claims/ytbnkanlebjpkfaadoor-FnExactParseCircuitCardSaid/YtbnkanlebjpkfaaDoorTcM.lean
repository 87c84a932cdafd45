/- Plain: what the program's texts of the twelfth chapter ask: joined words, numbers, words read. -/
import Derived.Test.YtbnkanlebjpkfaaDoorB05
import Derived.Test.YtbnkanlebjpkfaaDoorB01
namespace Go.Proofs.YtbnkanlebjpkfaaDoor
open Go.Lib
theorem join_flat (c : UInt8) (x : List UInt8) (r : List (List UInt8)) : join (x :: r) [c] = x ++ r.flatMap fun m => c :: m := by
  rw [join_cons]
  unfold joinTail
  rw [List.flatMap_def]
  rfl
theorem pcs_inj {c : UInt8} {s t : ByteArray} (h : pcs c s = pcs c t) : s = t := by
  have h1 := join_pcs c _ s (Nat.le_refl _)
  rw [h, join_pcs c _ t (Nat.le_refl _)] at h1
  exact ByteArray.ext (Array.toList_inj.1 h1.symm)
open Classical in
/-- A numeral from 0 to 999999: its value; whether it is one. -/
noncomputable def nbV (q : ByteArray) : Int := if h : ∃ n : Int, 0 ≤ n ∧ n ≤ 999999 ∧ itoa n = q.data.toList then Classical.choose h else 0
open Classical in
noncomputable def nbB (q : ByteArray) : Bool := decide (∃ n : Int, 0 ≤ n ∧ n ≤ 999999 ∧ itoa n = q.data.toList)
theorem nb_yes {q : ByteArray} (h : nbB q = true) : 0 ≤ nbV q ∧ nbV q ≤ 999999 ∧ itoa (nbV q) = q.data.toList := by
  have he : ∃ n : Int, 0 ≤ n ∧ n ≤ 999999 ∧ itoa n = q.data.toList := by simpa [nbB] using h
  rw [nbV, dif_pos he]
  exact Classical.choose_spec he
theorem nb_no {q : ByteArray} (h : nbB q = false) : nbV q = 0 ∧ ∀ n : Int, 0 ≤ n → n ≤ 999999 → itoa n ≠ q.data.toList := by
  have he : ¬ ∃ n : Int, 0 ≤ n ∧ n ≤ 999999 ∧ itoa n = q.data.toList := by simpa [nbB] using h
  exact ⟨by rw [nbV, dif_neg he], fun n a b c => he ⟨n, a, b, c⟩⟩
theorem nb_of {q : ByteArray} {n : Int} (h0 : 0 ≤ n) (h1 : n ≤ 999999) (h : toB (itoa n) = q) : nbB q = true ∧ nbV q = n := by
  have h2 : itoa n = q.data.toList := by rw [← h]; rfl
  have hb : nbB q = true := by simp only [nbB, decide_eq_true_eq]; exact ⟨n, h0, h1, h2⟩
  have ⟨a, b, c⟩ := nb_yes hb
  exact ⟨hb, itoa_inj64 (c.trans h2.symm) (by omega) (by omega) (by omega) (by omega)⟩
theorem nb_text {q : ByteArray} (h : nbB q = true) : toB (itoa (nbV q)) = q := by rw [(nb_yes h).2.2]; exact toB_of q
theorem nb_bounds (q : ByteArray) : 0 ≤ nbV q ∧ nbV q ≤ 999999 := by
  cases h : nbB q
  · rw [(nb_no h).1]; omega
  · have := nb_yes h; omega
/-- The k-th word. -/
def wdG (s : ByteArray) (j : Nat) : ByteArray := (pcs 32 s).getD j ByteArray.empty
theorem gt_words {s : ByteArray} {g : Gt} (h : gtB g 4 = true) (e : toB (gtT g) = s) : wdG s 0 = nmB g.k ∧ gkV (wdG s 0) = g.k ∧ (pcs 32 s).length = 1 + ar g.k ∧ ∀ j q, (gqs g)[j]? = some q → wdG s (j + 1) = toB (itoa q) ∧ 0 ≤ q ∧ q ≤ 999999 := by
  obtain ⟨-, hk, ha, hb, hc⟩ := gtB_parts h
  have hp : pcs 32 s = nmB g.k :: (gqs g).map fun q => toB (itoa q) := by rw [← e, gtT_pcs hk]
  have h0 : wdG s 0 = nmB g.k := by unfold wdG; rw [hp]; rfl
  refine ⟨h0, by rw [h0, gkV_of hk], by rw [hp, List.length_cons, List.length_map, gqs_len]; omega, fun j q hq => ?_⟩
  refine ⟨?_, ?_⟩
  · unfold wdG
    rw [hp, List.getD_eq_getElem?_getD, List.getElem?_cons_succ, List.getElem?_map, hq]
    rfl
  · have hx := List.mem_of_mem_take (List.mem_of_getElem? hq)
    simp only [List.mem_cons, List.not_mem_nil, or_false] at hx
    rcases hx with rfl | rfl | rfl <;> omega
theorem pg_no_len {s : ByteArray} (h : (pcs 32 s).length ≠ 1 + ar (gkV (wdG s 0))) : pgB s = false ∧ pgV s = ⟨0, 0, 0, 0⟩ :=
  pg_no fun g hg e => by
    obtain ⟨-, h1, h2, -⟩ := gt_words hg e
    rw [h1] at h
    exact h h2
theorem pg_no_num {s : ByteArray} {j : Nat} (hj : j + 1 < (pcs 32 s).length) (h : nbB (wdG s (j + 1)) = false) : pgB s = false ∧ pgV s = ⟨0, 0, 0, 0⟩ :=
  pg_no fun g hg e => by
    obtain ⟨-, h1, h2, h3⟩ := gt_words hg e
    have hl : j < (gqs g).length := by rw [gqs_len]; omega
    obtain ⟨h4, h5, h6⟩ := h3 j _ (List.getElem?_eq_getElem hl)
    rw [(nb_of h5 h6 h4.symm).1] at h
    cases h
/-- The numbers of the first m words behind the name. -/
noncomputable def nvs (s : ByteArray) (m : Nat) : List Int := (List.range m).map fun i => nbV (wdG s (i + 1))
theorem nvs_len (s : ByteArray) (m : Nat) : (nvs s m).length = m := by simp [nvs]
theorem nvs_succ (s : ByteArray) (m : Nat) : nvs s (m + 1) = nvs s m ++ [nbV (wdG s (m + 1))] := by unfold nvs; rw [List.range_succ, List.map_append]; rfl
theorem nvs_at (s : ByteArray) {m i : Nat} (h : i < m) : (nvs s m)[i]? = some (nbV (wdG s (i + 1))) := by unfold nvs; rw [List.getElem?_map, List.getElem?_range h]; rfl
def gtOf (k : Int) (l : List Int) : Gt := ⟨k, l.getD 0 0, l.getD 1 0, l.getD 2 0⟩
theorem getD3 : ∀ {l : List Int} {m : Nat}, l.length = m → m ≤ 3 → [l.getD 0 0, l.getD 1 0, l.getD 2 0].take m = l
  | [], m, h, _ => by subst h; rfl
  | [a], m, h, _ => by subst h; rfl
  | [a, b], m, h, _ => by subst h; rfl
  | [a, b, c], m, h, _ => by subst h; rfl
  | _ :: _ :: _ :: _ :: _, m, h, h3 => by simp at h; omega
theorem gqs_of {k : Int} {l : List Int} (h : l.length = ar k) : gqs (gtOf k l) = l := by
  unfold gqs gtOf
  exact getD3 h (ar_le k)
theorem gt_of_gqs {g : Gt} (h : gtB g 4 = true) : gtOf g.k (gqs g) = g := by
  obtain ⟨k, a, b, c⟩ := g
  rcases gtB_fields h with ⟨r, q, z, z'⟩ | ⟨r, q, z⟩ | ⟨r, q⟩
  · simp only at z z'
    rw [q, z, z']; rfl
  · simp only at z
    rw [q, z]; rfl
  · rw [q]; rfl
theorem pg_fin {s : ByteArray} {m : Nat} (hm : (pcs 32 s).length = m + 1) (hk : ar (gkV (wdG s 0)) = m) (hall : ∀ i, i < m → nbB (wdG s (i + 1)) = true) :
    (gtB (gtOf (gkV (wdG s 0)) (nvs s m)) 4 = true → pgB s = true ∧ pgV s = gtOf (gkV (wdG s 0)) (nvs s m)) ∧
    (gtB (gtOf (gkV (wdG s 0)) (nvs s m)) 4 = false → pgB s = false ∧ pgV s = ⟨0, 0, 0, 0⟩) := by
  have hq := gqs_of (k := gkV (wdG s 0)) (l := nvs s m) (by rw [nvs_len, hk])
  refine ⟨fun h => pg_yes h ?_, fun h => pg_no fun g hg e => ?_⟩
  · have hkr := (gtB_parts h).2.1
    refine pcs_inj (c := 32) ?_
    rw [gtT_pcs hkr, hq]
    have h0 : nmB (gkV (wdG s 0)) = wdG s 0 := by
      rcases gkV_range (wdG s 0) with e | ⟨-, -, e⟩
      · rw [show (gtOf (gkV (wdG s 0)) (nvs s m)).k = gkV (wdG s 0) from rfl] at hkr; omega
      · exact e
    rw [show (gtOf (gkV (wdG s 0)) (nvs s m)).k = gkV (wdG s 0) from rfl, h0]
    refine List.ext_getElem? fun i => ?_
    cases i with
    | zero => unfold wdG; rw [List.getD_eq_getElem?_getD, List.getElem?_cons_zero, List.getElem?_eq_getElem (show 0 < (pcs 32 s).length by omega)]; rfl
    | succ i =>
      rw [List.getElem?_cons_succ, List.getElem?_map]
      by_cases hi : i < m
      · rw [nvs_at s hi]
        show some (toB (itoa (nbV (wdG s (i + 1))))) = _
        rw [nb_text (hall i hi)]
        unfold wdG
        rw [List.getD_eq_getElem?_getD, List.getElem?_eq_getElem (show i + 1 < (pcs 32 s).length by omega)]
        rfl
      · rw [List.getElem?_eq_none (by rw [nvs_len]; omega), List.getElem?_eq_none (by omega)]
        rfl
  · obtain ⟨-, h1, h2, h3⟩ := gt_words hg e
    have hl : m = ar g.k := by omega
    have hv : nvs s m = gqs g := by
      refine List.ext_getElem? fun i => ?_
      by_cases hi : i < m
      · have hl : i < (gqs g).length := by rw [gqs_len]; omega
        obtain ⟨h4, h5, h6⟩ := h3 i _ (List.getElem?_eq_getElem hl)
        rw [nvs_at s hi, List.getElem?_eq_getElem hl, (nb_of h5 h6 h4.symm).2]
      · rw [List.getElem?_eq_none (by rw [nvs_len]; omega), List.getElem?_eq_none (by rw [gqs_len]; omega)]
    rw [hv, h1, gt_of_gqs hg, hg] at h
    cases h
theorem pg_get {s : ByteArray} (h : pgB s = true) : gtB (pgV s) 4 = true ∧ toB (gtT (pgV s)) = s := by
  by_cases hx : ∃ g, gtB g 4 = true ∧ toB (gtT g) = s
  · obtain ⟨g, h1, h2⟩ := hx
    rw [(pg_yes h1 h2).2]
    exact ⟨h1, h2⟩
  · rw [(pg_no fun g h1 h2 => hx ⟨g, h1, h2⟩).1] at h
    cases h
/-- The k-th line; the first one without its word. -/
def lnC (s : ByteArray) (j : Nat) : ByteArray := (pcs 10 s).getD j ByteArray.empty
def word8L : List UInt8 := [113, 117, 98, 105, 116, 115, 32]
def hdB (l : ByteArray) : Bool := word8L.isPrefixOf l.data.toList
def hdR (l : ByteArray) : ByteArray := toB (l.data.toList.drop 7)
theorem hdT_eq (n : Int) : hdT n = word8L ++ itoa n := by unfold hdT word7 word8L; simp
theorem hd_text {l : ByteArray} {n : Int} (h : hdB l = true) (hn : toB (itoa n) = hdR l) : toB (hdT n) = l := by
  unfold hdB at h
  obtain ⟨r, hr⟩ := List.isPrefixOf_iff_prefix.1 h
  have h1 : itoa n = l.data.toList.drop 7 := toB_inj hn
  rw [hdT_eq, h1, ← hr]
  rw [show (word8L ++ r).drop 7 = r from List.drop_left' rfl, hr]
  exact toB_of l
theorem hd_of (n : Int) : hdB (toB (hdT n)) = true ∧ hdR (toB (hdT n)) = toB (itoa n) := by
  rw [hdT_eq]
  refine ⟨by unfold hdB; rw [toB_data]; exact List.isPrefixOf_iff_prefix.2 ⟨_, rfl⟩, ?_⟩
  unfold hdR
  rw [toB_data, show (word8L ++ itoa n).drop 7 = itoa n from List.drop_left' rfl]
theorem ci_lines {s : ByteArray} {n : Int} {L : List Gt} (h : ciB n L = true) (e : toB (cT n L) = s) : lnC s 0 = toB (hdT n) ∧ (0 ≤ n ∧ n ≤ 4) ∧ (pcs 10 s).length = L.length + 1 ∧ ∀ j g, L[j]? = some g → lnC s (j + 1) = toB (gtT g) ∧ gtB g 4 = true := by
  obtain ⟨h1, h2, h3⟩ := ciB_parts h
  have hp := cT_pcs h1
  rw [e] at hp
  refine ⟨by unfold lnC; rw [hp]; rfl, by omega, by rw [hp]; simp, fun j g hg => ⟨?_, gtB_mono (h1 g (List.mem_of_getElem? hg))⟩⟩
  unfold lnC
  rw [hp, List.getD_eq_getElem?_getD, List.getElem?_cons_succ, List.getElem?_map, hg]
  rfl
theorem pc_no_word {s : ByteArray} (h : hdB (lnC s 0) = false) : pcB s = false ∧ pcV s = (0, []) :=
  pc_no fun n L hc e => by
    obtain ⟨h1, -⟩ := ci_lines hc e
    rw [h1, (hd_of n).1] at h
    cases h
theorem pc_no_head {s : ByteArray} (h : nbB (hdR (lnC s 0)) = false) : pcB s = false ∧ pcV s = (0, []) :=
  pc_no fun n L hc e => by
    obtain ⟨h1, h2, -⟩ := ci_lines hc e
    rw [h1, (hd_of n).2, (nb_of (n := n) (by omega) (by omega) rfl).1] at h
    cases h
theorem pc_no_line {s : ByteArray} {j : Nat} (hj : j + 1 < (pcs 10 s).length) (h : pgB (lnC s (j + 1)) = false) : pcB s = false ∧ pcV s = (0, []) :=
  pc_no fun n L hc e => by
    obtain ⟨-, -, h2, h3⟩ := ci_lines hc e
    have hl : j < L.length := by omega
    obtain ⟨h4, h5⟩ := h3 j _ (List.getElem?_eq_getElem hl)
    rw [h4, (pg_yes h5 rfl).1] at h
    cases h
/-- The gates that the first m lines behind the first name. -/
noncomputable def gls (s : ByteArray) (m : Nat) : List Gt := (List.range m).map fun i => pgV (lnC s (i + 1))
theorem gls_len (s : ByteArray) (m : Nat) : (gls s m).length = m := by simp [gls]
theorem gls_succ (s : ByteArray) (m : Nat) : gls s (m + 1) = gls s m ++ [pgV (lnC s (m + 1))] := by unfold gls; rw [List.range_succ, List.map_append]; rfl
theorem gls_at (s : ByteArray) {m i : Nat} (h : i < m) : (gls s m)[i]? = some (pgV (lnC s (i + 1))) := by unfold gls; rw [List.getElem?_map, List.getElem?_range h]; rfl
theorem pc_fin {s : ByteArray} {m : Nat} (hm : (pcs 10 s).length = m + 1) (hw : hdB (lnC s 0) = true) (hh : nbB (hdR (lnC s 0)) = true) (hall : ∀ i, i < m → pgB (lnC s (i + 1)) = true) :
    (ciB (nbV (hdR (lnC s 0))) (gls s m) = true → pcB s = true ∧ pcV s = (nbV (hdR (lnC s 0)), gls s m)) ∧
    (ciB (nbV (hdR (lnC s 0))) (gls s m) = false → pcB s = false ∧ pcV s = (0, [])) := by
  refine ⟨fun h => pc_yes h ?_, fun h => pc_no fun n L hc e => ?_⟩
  · refine pcs_inj (c := 10) ?_
    rw [cT_pcs (ciB_parts h).1, hd_text hw (nb_text hh)]
    refine List.ext_getElem? fun i => ?_
    cases i with
    | zero => unfold lnC; rw [List.getD_eq_getElem?_getD, List.getElem?_cons_zero, List.getElem?_eq_getElem (show 0 < (pcs 10 s).length by omega)]; rfl
    | succ i =>
      rw [List.getElem?_cons_succ, List.getElem?_map]
      by_cases hi : i < m
      · rw [gls_at s hi]
        show some (toB (gtT (pgV (lnC s (i + 1))))) = _
        rw [(pg_get (hall i hi)).2]
        unfold lnC
        rw [List.getD_eq_getElem?_getD, List.getElem?_eq_getElem (show i + 1 < (pcs 10 s).length by omega)]
        rfl
      · rw [List.getElem?_eq_none (by rw [gls_len]; omega), List.getElem?_eq_none (by omega)]
        rfl
  · obtain ⟨h1, h2, h3, h4⟩ := ci_lines hc e
    have hn : nbV (hdR (lnC s 0)) = n := by rw [h1, (hd_of n).2]; exact (nb_of (n := n) (by omega) (by omega) rfl).2
    have hL : gls s m = L := by
      refine List.ext_getElem? fun i => ?_
      by_cases hi : i < m
      · have hl : i < L.length := by omega
        obtain ⟨h5, h6⟩ := h4 i _ (List.getElem?_eq_getElem hl)
        rw [gls_at s hi, List.getElem?_eq_getElem hl, h5, (pg_yes h6 rfl).2]
      · rw [List.getElem?_eq_none (by rw [gls_len]; omega), List.getElem?_eq_none (by omega)]
    rw [hn, hL, hc] at h
    cases h
end Go.Proofs.YtbnkanlebjpkfaaDoor
