/- Plain: the fields of an amplitude's text, cut at its separators in their order. -/
import Derived.Test.YtggmcahglcnleaaDoorTxP
import Derived.Lib.DecodeN
import Derived.Laws.RangeAny
namespace Go.Proofs.YtggmcahglcnleaaDoor
open Go.Lib
/-- The separator behind field k. -/
def sepC (k : Nat) : UInt8 := if k = 3 then 47 else 44
/-- A byte that parts fields. -/
def Parts (c : UInt8) : Prop := c = 44 ∨ c = 47
instance (c : UInt8) : Decidable (Parts c) := inferInstanceAs (Decidable (_ ∨ _))
/-- The rest r is read behind the beginning cur of a field, behind the fields fs. -/
def scan : List UInt8 → List UInt8 → List (List UInt8) → Option (List (List UInt8))
  | [], cur, fs => if fs.length = 4 then some (fs ++ [cur]) else none
  | c :: r, cur, fs => if ¬ Parts c then scan r (cur ++ [c]) fs else if fs.length = 4 ∨ c ≠ sepC fs.length then none else scan r [] (fs ++ [cur])
theorem scan_skip : ∀ (l r cur : List UInt8) (fs : List (List UInt8)), (∀ c ∈ l, ¬ Parts c) → scan (l ++ r) cur fs = scan r (cur ++ l) fs
  | [], r, cur, fs, _ => by simp
  | c :: l, r, cur, fs, h => by
    rw [List.cons_append, scan, if_pos (h c (by simp)), scan_skip l r _ fs (fun x hx => h x (List.mem_cons_of_mem _ hx))]
    simp
/-- The text that the fields spell. -/
def cat : List (List UInt8) → Nat → List UInt8
  | [], _ => []
  | [f], _ => f
  | f :: g :: r, k => f ++ sepC k :: cat (g :: r) (k + 1)
theorem cat_snoc : ∀ (fs : List (List UInt8)) (f g : List UInt8) (k : Nat), cat (fs ++ [f, g]) k = cat (fs ++ [f]) k ++ sepC (k + fs.length) :: g
  | [], f, g, k => by simp [cat]
  | [a], f, g, k => by simp [cat]
  | a :: b :: r, f, g, k => by
    have ih := cat_snoc (b :: r) f g (k + 1)
    simp only [List.cons_append] at ih ⊢
    rw [cat, cat, ih]
    simp only [List.length_cons, List.append_assoc, List.cons_append]
    rw [show k + 1 + (r.length + 1) = k + (r.length + 1 + 1) by omega]
theorem cat_last : ∀ (fs : List (List UInt8)) (f g : List UInt8) (k : Nat), cat (fs ++ [f ++ g]) k = cat (fs ++ [f]) k ++ g
  | [], f, g, k => by simp [cat]
  | [a], f, g, k => by simp [cat]
  | a :: b :: r, f, g, k => by
    have ih := cat_last (b :: r) f g (k + 1)
    simp only [List.cons_append] at ih ⊢
    rw [cat, cat, ih]
    simp
theorem scan_cat : ∀ (r cur : List UInt8) (fs gs : List (List UInt8)), scan r cur fs = some gs → gs.length = 5 ∧ cat gs 0 = cat (fs ++ [cur]) 0 ++ r
  | [], cur, fs, gs, h => by
    rw [scan] at h
    split at h
    · rename_i hl
      cases h
      exact ⟨by simp [hl], by simp⟩
    · cases h
  | c :: r, cur, fs, gs, h => by
    rw [scan] at h
    split at h
    · have ⟨h1, h2⟩ := scan_cat r _ fs gs h
      refine ⟨h1, ?_⟩
      rw [h2, cat_last]
      simp
    · split at h
      · cases h
      · rename_i hq
        have ⟨h1, h2⟩ := scan_cat r _ _ gs h
        refine ⟨h1, ?_⟩
        have hc : c = sepC fs.length := Classical.byContradiction fun e => hq (.inr e)
        rw [h2, List.append_assoc]
        simp only [List.cons_append, List.nil_append]
        rw [cat_snoc, hc, Nat.zero_add]
        simp
theorem scan_hit {c : UInt8} {r cur : List UInt8} {fs : List (List UInt8)} (h4 : fs.length < 4) (hc : c = sepC fs.length) : scan (c :: r) cur fs = scan r [] (fs ++ [cur]) := by
  have hp : Parts c := by rw [hc]; unfold Parts sepC; split <;> simp
  rw [scan, if_neg (fun h => h hp), if_neg (by rintro (h | h); exact absurd h (by omega); exact h hc)]
theorem scan_bad {c : UInt8} {r cur : List UInt8} {fs : List (List UInt8)} (hp : Parts c) (h : fs.length = 4 ∨ c ≠ sepC fs.length) : scan (c :: r) cur fs = none := by
  rw [scan, if_neg (fun k => k hp), if_pos h]
theorem num_parts {l : List UInt8} (h : Num l) : ∀ c ∈ l, ¬ Parts c := fun _ hc hp => num_no h hp hc
/-- The fields of a fraction's text. -/
theorem scan_txt (x : Dw) : scan (txt x) [] [] = some [itoa x.n.a, itoa x.n.b, itoa x.n.c, itoa x.n.d, itoa x.e] := by
  unfold txt pre
  simp only [List.append_assoc, List.cons_append]
  rw [scan_skip _ _ _ _ (num_parts (itoa_num x.n.a)), scan_hit (c := 44) (by simp) (by simp [sepC]), scan_skip _ _ _ _ (num_parts (itoa_num x.n.b)), scan_hit (c := 44) (by simp) (by simp [sepC]),
    scan_skip _ _ _ _ (num_parts (itoa_num x.n.c)), scan_hit (c := 44) (by simp) (by simp [sepC]), scan_skip _ _ _ _ (num_parts (itoa_num x.n.d)), scan_hit (c := 47) (by simp) (by simp [sepC]),
    show itoa x.e = itoa x.e ++ [] by simp, scan_skip _ _ _ _ (num_parts (itoa_num x.e)), scan]
  simp
theorem reads_scan {s : ByteArray} {x : Dw} (h : Reads s x) : scan s.data.toList [] [] = some [itoa x.n.a, itoa x.n.b, itoa x.n.c, itoa x.n.d, itoa x.e] := by
  rw [← h.2, toB_data]; exact scan_txt x
theorem scan_none {s : ByteArray} (h : scan s.data.toList [] [] = none) (x : Dw) : ¬ Reads s x := by
  intro hx
  rw [reads_scan hx] at h
  cases h
theorem scan_five {s : ByteArray} {gs : List (List UInt8)} (h : scan s.data.toList [] [] = some gs) : ∃ a b c d e, gs = [a, b, c, d, e] := by
  have ⟨h1, _⟩ := scan_cat _ _ _ _ h
  match gs, h1 with
  | [a, b, c, d, e], _ => exact ⟨a, b, c, d, e, rfl⟩
/-- All fields are numerals: the text is the fraction's, if it is valid. -/
theorem scan_reads {s : ByteArray} {x : Dw} (h : scan s.data.toList [] [] = some [itoa x.n.a, itoa x.n.b, itoa x.n.c, itoa x.n.d, itoa x.e]) (hx : x.ok) : Reads s x := by
  have ⟨_, h2⟩ := scan_cat _ _ _ _ h
  refine ⟨hx, ?_⟩
  have h3 : txt x = s.data.toList := by
    rw [show s.data.toList = cat ([] ++ [[]]) 0 ++ s.data.toList by simp [cat], ← h2]
    simp [cat, txt, pre, sepC]
  rw [h3, toB_of]
open Classical in
/-- The integer that a field spells, within the limits; and whether it does. -/
noncomputable def fldV (q : ByteArray) : Int := if h : ∃ n : Int, -999999999999 ≤ n ∧ n ≤ 999999999999 ∧ itoa n = q.data.toList then Classical.choose h else 0
open Classical in
noncomputable def fldB (q : ByteArray) : Bool := decide (∃ n : Int, -999999999999 ≤ n ∧ n ≤ 999999999999 ∧ itoa n = q.data.toList)
theorem num_yes {q : ByteArray} (h : fldB q = true) : -999999999999 ≤ fldV q ∧ fldV q ≤ 999999999999 ∧ itoa (fldV q) = q.data.toList := by
  have he : ∃ n : Int, -999999999999 ≤ n ∧ n ≤ 999999999999 ∧ itoa n = q.data.toList := by simpa [fldB] using h
  rw [fldV, dif_pos he]
  exact Classical.choose_spec he
theorem num_false {q : ByteArray} (h : fldB q = false) : fldV q = 0 ∧ ∀ n : Int, -999999999999 ≤ n → n ≤ 999999999999 → itoa n ≠ q.data.toList := by
  have he : ¬ ∃ n : Int, -999999999999 ≤ n ∧ n ≤ 999999999999 ∧ itoa n = q.data.toList := by simpa [fldB] using h
  exact ⟨by rw [fldV, dif_neg he], fun n a b c => he ⟨n, a, b, c⟩⟩
theorem num_of {q : ByteArray} {n : Int} (h0 : -999999999999 ≤ n) (h1 : n ≤ 999999999999) (h : itoa n = q.data.toList) : fldB q = true ∧ fldV q = n := by
  have hb : fldB q = true := by simp only [fldB, decide_eq_true_eq]; exact ⟨n, h0, h1, h⟩
  have ⟨a, b, c⟩ := num_yes hb
  exact ⟨hb, itoa_inj64 (c.trans h.symm) (by omega) (by omega) (by omega) (by omega)⟩
theorem num_bounds (q : ByteArray) : -999999999999 ≤ fldV q ∧ fldV q ≤ 999999999999 := by
  cases h : fldB q
  · rw [(num_false h).1]; omega
  · have := num_yes h; omega
/-- What is read from the five fields. -/
noncomputable def rd (a b c d e : List UInt8) : Dw := ⟨⟨fldV (toB a), fldV (toB b), fldV (toB c), fldV (toB d)⟩, fldV (toB e)⟩
theorem fields_yes {s : ByteArray} {a b c d e : List UInt8} (h : scan s.data.toList [] [] = some [a, b, c, d, e]) (ha : fldB (toB a) = true) (hb : fldB (toB b) = true) (hc : fldB (toB c) = true) (hd : fldB (toB d) = true) (he : fldB (toB e) = true)
    (hx : (rd a b c d e).ok) : Reads s (rd a b c d e) := by
  refine scan_reads (x := rd a b c d e) ?_ hx
  rw [h]
  simp only [rd, (num_yes ha).2.2, (num_yes hb).2.2, (num_yes hc).2.2, (num_yes hd).2.2, (num_yes he).2.2, toB_data]
theorem fields_of {s : ByteArray} {a b c d e : List UInt8} (h : scan s.data.toList [] [] = some [a, b, c, d, e]) {x : Dw} (hx : Reads s x) :
    (fldB (toB a) = true ∧ fldB (toB b) = true ∧ fldB (toB c) = true ∧ fldB (toB d) = true ∧ fldB (toB e) = true) ∧ rd a b c d e = x := by
  rw [reads_scan hx] at h
  injection h with h
  injection h with e0 h
  injection h with e1 h
  injection h with e2 h
  injection h with e3 h
  injection h with e4 _
  obtain ⟨⟨a0, a1⟩, ⟨b0, b1⟩, ⟨c0, c1⟩, ⟨d0, d1⟩, k0, k1⟩ := ok_bounds hx.1
  have ra := num_of (q := toB a) (n := x.n.a) (by omega) (by omega) e0
  have rb := num_of (q := toB b) (n := x.n.b) (by omega) (by omega) e1
  have rc := num_of (q := toB c) (n := x.n.c) (by omega) (by omega) e2
  have rdd := num_of (q := toB d) (n := x.n.d) (by omega) (by omega) e3
  have re := num_of (q := toB e) (n := x.e) (by omega) (by omega) e4
  refine ⟨⟨ra.1, rb.1, rc.1, rdd.1, re.1⟩, ?_⟩
  unfold rd
  rw [ra.2, rb.2, rc.2, rdd.2, re.2]
/-- A rune of a string: one byte below 128, or bytes that part no fields. -/
theorem rune_at (s : ByteArray) (pos : Nat) (h : pos < s.size) :
    ((s[pos]'h).toNat < 128 ∧ Utf8.decode s pos = ((s[pos]'h).toNat, 1)) ∨
    (128 ≤ (Utf8.decode s pos).1 ∧ 1 ≤ (Utf8.decode s pos).2 ∧ pos + (Utf8.decode s pos).2 ≤ s.size ∧ ∀ c ∈ (s.data.toList.drop pos).take (Utf8.decode s pos).2, ¬ Parts c) := by
  by_cases ha : (s[pos]'h).toNat < 128
  · exact .inl ⟨ha, decode_ascii s pos h ha⟩
  · have ⟨h1, h2⟩ := decode_high s pos h (by omega)
    have hg : ∀ k, pos + k < s.size → s.data.toList[pos + k]? = some (s.get! (pos + k)) := by
      intro k hk
      have e : s.get! (pos + k) = s[pos + k]'hk := by
        show s.get! (pos + k) = _
        simp [ByteArray.get!, getElem!_pos, hk]
        rfl
      rw [e, List.getElem?_eq_getElem (by simpa using hk)]
      rfl
    have h0 : 128 ≤ (s.get! (pos + 0)).toNat := by rw [get_at s pos h]; omega
    have hw : pos + (Utf8.decode s pos).2 ≤ s.size ∧ ∀ k, k < (Utf8.decode s pos).2 → 128 ≤ (s.get! (pos + k)).toNat := by
      rw [decode_at]
      rw [Nat.add_zero] at h0
      generalize (s.get! pos).toNat = b0 at *
      generalize hb1 : (s.get! (pos + 1)).toNat = b1 at *
      generalize hb2 : (s.get! (pos + 2)).toNat = b2 at *
      generalize hb3 : (s.get! (pos + 3)).toNat = b3 at *
      have hn : ∃ n, n = s.size - pos := ⟨_, rfl⟩
      obtain ⟨n, hn⟩ := hn
      rw [← hn]
      have one : ∀ k, k < 1 → 128 ≤ (s.get! (pos + k)).toNat := by
        intro k hk
        obtain rfl : k = 0 := by omega
        rw [get_at s pos h]; omega
      have two : 128 ≤ b1 → ∀ k, k < 2 → 128 ≤ (s.get! (pos + k)).toNat := by
        intro hb k hk
        by_cases hk1 : k < 1
        · exact one k hk1
        · obtain rfl : k = 1 := by omega
          rw [hb1]; exact hb
      have three : 128 ≤ b1 → 128 ≤ b2 → ∀ k, k < 3 → 128 ≤ (s.get! (pos + k)).toNat := by
        intro hb hc k hk
        by_cases hk1 : k < 2
        · exact two hb k hk1
        · obtain rfl : k = 2 := by omega
          rw [hb2]; exact hc
      have four : 128 ≤ b1 → 128 ≤ b2 → 128 ≤ b3 → ∀ k, k < 4 → 128 ≤ (s.get! (pos + k)).toNat := by
        intro hb hc hd k hk
        by_cases hk1 : k < 3
        · exact three hb hc k hk1
        · obtain rfl : k = 3 := by omega
          rw [hb3]; exact hd
      unfold decodeN
      repeat' split
      all_goals first
        | exact ⟨by show pos + 1 ≤ s.size; omega, one⟩
        | exact ⟨by show pos + 2 ≤ s.size; omega, two (by omega)⟩
        | exact ⟨by show pos + 3 ≤ s.size; omega, three (by omega) (by omega)⟩
        | exact ⟨by show pos + 4 ≤ s.size; omega, four (by omega) (by omega) (by omega)⟩
    refine .inr ⟨h1, h2, hw.1, fun c hc hp => ?_⟩
    obtain ⟨k, hk, hck⟩ := List.getElem_of_mem hc
    have hk1 : k < (Utf8.decode s pos).2 := by simp at hk; omega
    have hget := hg k (by omega)
    have hc2 : c = s.get! (pos + k) := by
      rw [← hck, List.getElem_take, List.getElem_drop]
      have := List.getElem?_eq_some_iff.1 hget
      exact this.2
    have h3 := hw.2 k hk1
    rw [← hc2] at h3
    rcases hp with rfl | rfl <;> exact absurd h3 (by decide)
/-- One rune of the reading on. -/
theorem scan_rune {L : List UInt8} {pos start wd : Nat} {fs : List (List UInt8)} (h1 : start ≤ pos) (h2 : pos + wd ≤ L.length) (h : ∀ c ∈ (L.drop pos).take wd, ¬ Parts c) :
    scan (L.drop pos) ((L.take pos).drop start) fs = scan (L.drop (pos + wd)) ((L.take (pos + wd)).drop start) fs := by
  have e1 : L.drop pos = (L.drop pos).take wd ++ L.drop (pos + wd) := by rw [← List.drop_drop]; exact (List.take_append_drop wd (L.drop pos)).symm
  have e2 : (L.take (pos + wd)).drop start = (L.take pos).drop start ++ (L.drop pos).take wd := by
    rw [List.take_add, List.drop_append_of_le_length (by simp; omega)]
  rw [e2]
  conv => lhs; rw [e1]
  exact scan_skip _ _ _ _ h
theorem drop_at {L : List UInt8} {pos : Nat} (h : pos < L.length) : L.drop pos = L[pos] :: L.drop (pos + 1) := (List.getElem_cons_drop ..).symm
end Go.Proofs.YtggmcahglcnleaaDoor
