/- Plain: the text of a fraction, its pieces, and what is read back from it. -/
import Derived.Test.YtggmcahglcnleaaDoorDwM2
import Derived.Test.YtggmcahglcnleaaDoorBaseA
namespace Go.Proofs.YtggmcahglcnleaaDoor
open Go.Lib
/-- Bytes as a string. -/
def toB (l : List UInt8) : ByteArray := ⟨l.toArray⟩
theorem toB_data (l : List UInt8) : (toB l).data.toList = l := rfl
theorem toB_size (l : List UInt8) : (toB l).size = l.length := by simp [toB, ByteArray.size]
theorem toB_of (s : ByteArray) : toB s.data.toList = s := by apply ByteArray.ext; simp [toB]
theorem toB_inj {l m : List UInt8} (h : toB l = toB m) : l = m := by
  have := congrArg (fun s : ByteArray => s.data.toList) h
  simpa [toB_data] using this
/-- A numeral holds digits and the sign. -/
def Num (l : List UInt8) : Prop := ∀ c ∈ l, c = 45 ∨ (48 ≤ c.toNat ∧ c.toNat ≤ 57)
theorem itoa_num (n : Int) : Num (itoa n) := by
  unfold itoa
  split
  · intro c hc
    rcases List.mem_cons.1 hc with rfl | hc
    · exact .inl rfl
    · exact .inr (decDigits_digs _ c hc)
  · intro c hc; exact .inr (decDigits_digs _ c hc)
theorem num_no {l : List UInt8} (h : Num l) {c : UInt8} (hc : c = 44 ∨ c = 47) : c ∉ l := by
  intro hm
  rcases h c hm with h | h
  · rcases hc with rfl | rfl <;> exact absurd h (by decide)
  · rcases hc with rfl | rfl <;> exact absurd h (by decide)
theorem itoa_inj64 {n m : Int} (h : itoa n = itoa m) (a0 : -9223372036854775808 ≤ n) (a1 : n ≤ 9223372036854775807) (b0 : -9223372036854775808 ≤ m) (b1 : m ≤ 9223372036854775807) : n = m := by
  have h1 := atoiAll_itoa n a0 a1
  rw [h, atoiAll_itoa m b0 b1] at h1
  injection h1 with h1
  exact h1.symm
theorem pcs_one {c : UInt8} {l : List UInt8} (h : c ∉ l) : pcs c (toB l) = [toB l] :=
  pcs_miss c _ (fun j hj => h (by rw [toB_data] at hj; exact List.mem_of_getElem? hj))
theorem pcs_app {c : UInt8} {l r : List UInt8} (h : c ∉ l) : pcs c (toB (l ++ c :: r)) = toB l :: pcs c (toB r) := by
  rw [pcs_hit c (toB (l ++ c :: r)) l.length (by rw [toB_data]; simp) (fun j hj e => by
    rw [toB_data, List.getElem?_append_left hj] at e
    exact h (List.mem_of_getElem? e))]
  congr 1
  · apply ByteArray.ext; simp [toB]
  · congr 1
    apply ByteArray.ext
    simp [toB, ByteArray.size]
    rw [List.take_of_length_le (by omega)]
/-- The text of a fraction. -/
def pre (x : Dw) : List UInt8 := itoa x.n.a ++ 44 :: (itoa x.n.b ++ 44 :: (itoa x.n.c ++ 44 :: itoa x.n.d))
def txt (x : Dw) : List UInt8 := pre x ++ 47 :: itoa x.e
def textD (x : Dw) : ByteArray := if x.ok then toB (txt x) else toB []
theorem textD_of {x : Dw} (h : x.ok) : textD x = toB (txt x) := if_pos h
theorem textD_no {x : Dw} (h : ¬ x.ok) : textD x = toB [] := if_neg h
theorem pre_pcs (x : Dw) : pcs 44 (toB (pre x)) = [toB (itoa x.n.a), toB (itoa x.n.b), toB (itoa x.n.c), toB (itoa x.n.d)] := by
  unfold pre
  rw [pcs_app (num_no (itoa_num _) (.inl rfl)), pcs_app (num_no (itoa_num _) (.inl rfl)), pcs_app (num_no (itoa_num _) (.inl rfl)), pcs_one (num_no (itoa_num _) (.inl rfl))]
theorem pre_no (x : Dw) : (47 : UInt8) ∉ pre x := by
  unfold pre
  simp only [List.mem_append, List.mem_cons]
  rintro (h | h | h | h | h | h | h)
  · exact num_no (itoa_num _) (.inr rfl) h
  · exact absurd h (by decide)
  · exact num_no (itoa_num _) (.inr rfl) h
  · exact absurd h (by decide)
  · exact num_no (itoa_num _) (.inr rfl) h
  · exact absurd h (by decide)
  · exact num_no (itoa_num _) (.inr rfl) h
theorem txt_pcs (x : Dw) : pcs 47 (toB (txt x)) = [toB (pre x), toB (itoa x.e)] := by
  unfold txt
  rw [pcs_app (pre_no x), pcs_one (num_no (itoa_num _) (.inr rfl))]
theorem txt_ne (x : Dw) : txt x ≠ [] := by unfold txt; simp
theorem ok_bounds {x : Dw} (h : x.ok) : (-1073741824 ≤ x.n.a ∧ x.n.a ≤ 1073741824) ∧ (-1073741824 ≤ x.n.b ∧ x.n.b ≤ 1073741824) ∧ (-1073741824 ≤ x.n.c ∧ x.n.c ≤ 1073741824) ∧ (-1073741824 ≤ x.n.d ∧ x.n.d ≤ 1073741824) ∧ 0 ≤ x.e ∧ x.e ≤ 60 :=
  ⟨h.1.1, h.1.2.1, h.1.2.2.1, h.1.2.2.2, h.2.1, h.2.2.1⟩
/-- Equal texts are of equal fractions. -/
theorem txt_inj {x y : Dw} (hx : x.ok) (hy : y.ok) (h : txt x = txt y) : x = y := by
  have h1 := txt_pcs x
  rw [h, txt_pcs y] at h1
  have hp := toB_inj (List.cons.inj h1).1
  have he := toB_inj (List.cons.inj (List.cons.inj h1).2).1
  have h2 := pre_pcs x
  rw [← hp, pre_pcs y] at h2
  have ha := toB_inj (List.cons.inj h2).1
  have h3 := (List.cons.inj h2).2
  have hb := toB_inj (List.cons.inj h3).1
  have h4 := (List.cons.inj h3).2
  have hc := toB_inj (List.cons.inj h4).1
  have hd := toB_inj (List.cons.inj (List.cons.inj h4).2).1
  obtain ⟨⟨a0, a1⟩, ⟨b0, b1⟩, ⟨c0, c1⟩, ⟨d0, d1⟩, e0, e1⟩ := ok_bounds hx
  obtain ⟨⟨p0, p1⟩, ⟨q0, q1⟩, ⟨r0, r1⟩, ⟨s0, s1⟩, t0, t1⟩ := ok_bounds hy
  have ea := itoa_inj64 ha (by omega) (by omega) (by omega) (by omega)
  have eb := itoa_inj64 hb (by omega) (by omega) (by omega) (by omega)
  have ec := itoa_inj64 hc (by omega) (by omega) (by omega) (by omega)
  have ed := itoa_inj64 hd (by omega) (by omega) (by omega) (by omega)
  have ee := itoa_inj64 he (by omega) (by omega) (by omega) (by omega)
  obtain ⟨⟨a, b, c, d⟩, e⟩ := x
  obtain ⟨⟨p, q, r, s⟩, t⟩ := y
  simp only [] at ea eb ec ed ee
  subst ea eb ec ed ee
  rfl
/-- ParseDOmega: the valid fraction whose text is s. -/
def Reads (s : ByteArray) (x : Dw) : Prop := x.ok ∧ toB (txt x) = s
theorem reads_one {s : ByteArray} {x y : Dw} (hx : Reads s x) (hy : Reads s y) : x = y := txt_inj hx.1 hy.1 (toB_inj (hx.2.trans hy.2.symm))
open Classical in
noncomputable def parseV (s : ByteArray) : Dw := if h : ∃ x, Reads s x then Classical.choose h else .zero
open Classical in
noncomputable def parseB (s : ByteArray) : Bool := decide (∃ x, Reads s x)
theorem parse_yes {s : ByteArray} {x : Dw} (h : Reads s x) : parseV s = x ∧ parseB s = true := by
  have he : ∃ x, Reads s x := ⟨x, h⟩
  refine ⟨?_, by simp only [parseB, decide_eq_true_eq]; exact he⟩
  rw [parseV, dif_pos he]
  exact reads_one (Classical.choose_spec he) h
theorem parse_no {s : ByteArray} (h : ∀ x, ¬ Reads s x) : parseV s = .zero ∧ parseB s = false := by
  have he : ¬ ∃ x, Reads s x := fun ⟨x, hx⟩ => h x hx
  exact ⟨by rw [parseV, dif_neg he], by simp only [parseB, decide_eq_false_iff_not]; exact he⟩
theorem parse_reads {s : ByteArray} (h : parseB s = true) : Reads s (parseV s) := by
  by_cases he : ∃ x, Reads s x
  · rw [parseV, dif_pos he]; exact Classical.choose_spec he
  · rw [(parse_no (fun x hx => he ⟨x, hx⟩)).2] at h; cases h
theorem parse_text {x : Dw} : parseB (textD x) = decide x.ok ∧ (x.ok → parseV (textD x) = x) := by
  by_cases h : x.ok
  · have hr : Reads (textD x) x := ⟨h, (textD_of h).symm⟩
    exact ⟨by rw [(parse_yes hr).2]; exact (decide_eq_true h).symm, fun _ => (parse_yes hr).1⟩
  · refine ⟨?_, fun k => absurd k h⟩
    rw [textD_no h, (parse_no (fun y hy => ?_)).2]
    · exact (decide_eq_false h).symm
    · exact txt_ne y (toB_inj hy.2)
/-- A value that was read from a piece: if the piece is a numeral within the limits, it is that number. -/
def Got (p : ByteArray) (lo hi v : Int) : Prop := ∀ n : Int, lo ≤ n → n ≤ hi → itoa n = p.data.toList → v = n
/-- The pieces' values are the fraction's, if there is one with this text. -/
theorem cand {s p0 p1 q0 q1 q2 q3 : ByteArray} {a b c d e : Int} (h2 : pcs 47 s = [p0, p1]) (h4 : pcs 44 p0 = [q0, q1, q2, q3])
    (ga : Got q0 (-999999999999) 999999999999 a) (gb : Got q1 (-999999999999) 999999999999 b) (gc : Got q2 (-999999999999) 999999999999 c) (gd : Got q3 (-999999999999) 999999999999 d) (ge : Got p1 0 999999 e)
    {x : Dw} (h : Reads s x) : x = ⟨⟨a, b, c, d⟩, e⟩ := by
  obtain ⟨hok, hs⟩ := h
  rw [← hs, txt_pcs] at h2
  obtain ⟨e0, h2⟩ := List.cons.inj h2
  obtain ⟨e1, _⟩ := List.cons.inj h2
  rw [← e0, pre_pcs] at h4
  obtain ⟨f0, h4⟩ := List.cons.inj h4
  obtain ⟨f1, h4⟩ := List.cons.inj h4
  obtain ⟨f2, h4⟩ := List.cons.inj h4
  obtain ⟨f3, _⟩ := List.cons.inj h4
  obtain ⟨⟨a0, a1⟩, ⟨b0, b1⟩, ⟨c0, c1⟩, ⟨d0, d1⟩, k0, k1⟩ := ok_bounds hok
  have va := ga x.n.a (by omega) (by omega) (by rw [← f0]; rfl)
  have vb := gb x.n.b (by omega) (by omega) (by rw [← f1]; rfl)
  have vc := gc x.n.c (by omega) (by omega) (by rw [← f2]; rfl)
  have vd := gd x.n.d (by omega) (by omega) (by rw [← f3]; rfl)
  have ve := ge x.e (by omega) (by omega) (by rw [← e1]; rfl)
  obtain ⟨⟨p, q, r, t⟩, u⟩ := x
  simp only [] at va vb vc vd ve
  subst va vb vc vd ve
  rfl
/-- There is none if the pieces are not two and four. -/
theorem none_two {s : ByteArray} (h : (pcs 47 s).length ≠ 2) (x : Dw) : ¬ Reads s x := by
  rintro ⟨_, hs⟩
  rw [← hs, txt_pcs] at h
  exact h rfl
theorem none_four {s p0 p1 : ByteArray} (h2 : pcs 47 s = [p0, p1]) (h : (pcs 44 p0).length ≠ 4) (x : Dw) : ¬ Reads s x := by
  rintro ⟨_, hs⟩
  rw [← hs, txt_pcs] at h2
  rw [← (List.cons.inj h2).1, pre_pcs] at h
  exact h rfl
theorem txt_len {x : Dw} (h : x.ok) : (txt x).length ≤ 120 := by
  obtain ⟨⟨a0, a1⟩, ⟨b0, b1⟩, ⟨c0, c1⟩, ⟨d0, d1⟩, e0, e1⟩ := ok_bounds h
  have := itoa_len x.n.a (by omega) (by omega)
  have := itoa_len x.n.b (by omega) (by omega)
  have := itoa_len x.n.c (by omega) (by omega)
  have := itoa_len x.n.d (by omega) (by omega)
  have := itoa_len x.e (by omega) (by omega)
  unfold txt pre
  simp only [List.length_append, List.length_cons]
  omega
end Go.Proofs.YtggmcahglcnleaaDoor
