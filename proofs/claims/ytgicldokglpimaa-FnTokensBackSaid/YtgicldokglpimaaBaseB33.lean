/- BaseB33: several of our texts in one: SplitP TxP SplitS JoinS. -/
import Derived.Lib.Split
import Derived.Lib.IndexBytes
import Derived.Lib.SplitLaws
import Derived.Test.YtgicldokglpimaaDwM2
import Derived.Test.YtgicldokglpimaaBaseB31
import Derived.Test.YtgicldokglpimaaBaseB32
import Derived.Lib.Join
namespace Go.Proofs.Ytgicldokglpimaa
open Go.Lib
/-- The pieces of s between the places of the byte c. -/
def pcs (c : UInt8) (s : ByteArray) : List ByteArray := splitB ⟨#[c]⟩ 0 (countB s ⟨#[c]⟩) s
theorem occ_one (s : List UInt8) (c : UInt8) (i : Nat) : occAt s [c] i = (s[i]? == some c) := by
  unfold occAt
  rw [← List.head?_drop]
  cases h : s.drop i with
  | nil => rfl
  | cons a r => simp [List.isPrefixOf]; exact Bool.beq_comm
theorem idx_hit (s : ByteArray) (c : UInt8) (i : Nat) (h : s.data.toList[i]? = some c) (hn : ∀ j, j < i → s.data.toList[j]? ≠ some c) : indexB s ⟨#[c]⟩ = i := by
  have hi : i < s.data.toList.length := by
    rcases Nat.lt_or_ge i s.data.toList.length with h' | h'
    · exact h'
    · rw [List.getElem?_eq_none h'] at h; cases h
  show index s.data.toList [c] = i
  refine index_first (Nat.le_of_lt hi) (by rw [occ_one, h]; simp) (fun j hj => ?_)
  rw [occ_one]; simpa using hn j hj
theorem idx_miss (s : ByteArray) (c : UInt8) (hn : ∀ j : Nat, s.data.toList[j]? ≠ some c) : indexB s ⟨#[c]⟩ = -1 := by
  show index s.data.toList [c] = -1
  refine index_none (fun j _ => ?_)
  rw [occ_one]; simpa using hn j
theorem pcs_hit (c : UInt8) (s : ByteArray) (i : Nat) (h : s.data.toList[i]? = some c) (hn : ∀ j, j < i → s.data.toList[j]? ≠ some c) : pcs c s = s.extract 0 i :: pcs c (s.extract (i + 1) s.size) := by
  have hx := idx_hit s c i h hn
  unfold pcs
  rw [countB_hit s ⟨#[c]⟩ i (Nat.le_refl 1) hx, Nat.add_comm 1, splitB_hit _ _ _ _ i hx]
  rfl
theorem pcs_miss (c : UInt8) (s : ByteArray) (hn : ∀ j : Nat, s.data.toList[j]? ≠ some c) : pcs c s = [s] := by
  unfold pcs
  rw [splitB_miss _ _ _ _ (idx_miss s c hn)]
theorem ext_get (s : ByteArray) (f j : Nat) : (s.extract f s.size).data.toList[j]? = s.data.toList[f + j]? := by
  rw [extract_to_end, List.getElem?_drop]
/-- One step of the cutting loop: the byte at i is c. -/
theorem pcs_step (c : UInt8) (s : ByteArray) (f i : Nat) (hf : f ≤ i) (hi : i < s.size) (h : s.data.toList[i]? = some c) (hn : ∀ j, f ≤ j → j < i → s.data.toList[j]? ≠ some c) :
    pcs c (s.extract f s.size) = s.extract f i :: pcs c (s.extract (i + 1) s.size) := by
  have e := pcs_hit c (s.extract f s.size) (i - f) (by rw [ext_get, show f + (i - f) = i by omega]; exact h) (fun j hj => by rw [ext_get]; exact hn _ (by omega) (by omega))
  rw [e]
  have e1 : (s.extract f s.size).extract 0 (i - f) = s.extract f i := by
    rw [ByteArray.extract_extract]; congr 1; omega
  have e2 : (s.extract f s.size).extract (i - f + 1) (s.extract f s.size).size = s.extract (i + 1) s.size := by
    rw [ByteArray.extract_extract, ByteArray.size_extract]; congr 1 <;> omega
  rw [e1, e2]
theorem pcs_last (c : UInt8) (s : ByteArray) (f : Nat) (hn : ∀ j, f ≤ j → j < s.size → s.data.toList[j]? ≠ some c) : pcs c (s.extract f s.size) = [s.extract f s.size] := by
  refine pcs_miss c _ (fun j => ?_)
  rw [ext_get]
  rcases Nat.lt_or_ge (f + j) s.size with h | h
  · exact hn _ (by omega) h
  · rw [List.getElem?_eq_none (by simpa using h)]; simp
theorem pcs_whole (c : UInt8) (s : ByteArray) : pcs c (s.extract 0 s.size) = pcs c s := by
  congr 1
  apply ByteArray.ext; simp
theorem pcs_len (c : UInt8) (s : ByteArray) : (pcs c s).length = countB s ⟨#[c]⟩ + 1 := splitB_all ⟨#[c]⟩ (Nat.le_refl 1) 0 _ s rfl
theorem pcs_len_le (c : UInt8) (s : ByteArray) : (pcs c s).length ≤ s.size + 1 := by
  rw [pcs_len]; have := countB_le ⟨#[c]⟩ (Nat.le_refl 1) s.size s (Nat.le_refl _); omega
end Go.Proofs.Ytgicldokglpimaa
namespace Go.Proofs.Ytgicldokglpimaa
open Go.Lib
/-- Bytes as a string. -/
def toB (l : List UInt8) : ByteArray := ⟨l.toArray⟩
theorem toB_data (l : List UInt8) : (toB l).data.toList = l := rfl
theorem toB_size (l : List UInt8) : (toB l).size = l.length := by simp [toB, ByteArray.size]
theorem toB_of (s : ByteArray) : toB s.data.toList = s := by apply ByteArray.ext; simp [toB]
theorem toB_inj {l m : List UInt8} (h : toB l = toB m) : l = m := by
  have := congrArg (fun s : ByteArray => s.data.toList) h
  simpa [toB_data] using this
/-- A numeral holds digits and the sign. -/
def Num (l : List UInt8) : Prop := ∀ c ∈ l, c = 45 ∨ (48 ≤ c.toNat ∧ c.toNat ≤ 57)
theorem itoa_num (n : Int) : Num (itoa n) := by
  unfold itoa
  split
  · intro c hc
    rcases List.mem_cons.1 hc with rfl | hc
    · exact .inl rfl
    · exact .inr (decDigits_digs _ c hc)
  · intro c hc; exact .inr (decDigits_digs _ c hc)
theorem num_no {l : List UInt8} (h : Num l) {c : UInt8} (hc : c = 44 ∨ c = 47) : c ∉ l := by
  intro hm
  rcases h c hm with h | h
  · rcases hc with rfl | rfl <;> exact absurd h (by decide)
  · rcases hc with rfl | rfl <;> exact absurd h (by decide)
theorem itoa_inj64 {n m : Int} (h : itoa n = itoa m) (a0 : -9223372036854775808 ≤ n) (a1 : n ≤ 9223372036854775807) (b0 : -9223372036854775808 ≤ m) (b1 : m ≤ 9223372036854775807) : n = m := by
  have h1 := atoiAll_itoa n a0 a1
  rw [h, atoiAll_itoa m b0 b1] at h1
  injection h1 with h1
  exact h1.symm
theorem pcs_one {c : UInt8} {l : List UInt8} (h : c ∉ l) : pcs c (toB l) = [toB l] :=
  pcs_miss c _ (fun j hj => h (by rw [toB_data] at hj; exact List.mem_of_getElem? hj))
theorem pcs_app {c : UInt8} {l r : List UInt8} (h : c ∉ l) : pcs c (toB (l ++ c :: r)) = toB l :: pcs c (toB r) := by
  rw [pcs_hit c (toB (l ++ c :: r)) l.length (by rw [toB_data]; simp) (fun j hj e => by
    rw [toB_data, List.getElem?_append_left hj] at e
    exact h (List.mem_of_getElem? e))]
  congr 1
  · apply ByteArray.ext; simp [toB]
  · congr 1
    apply ByteArray.ext
    simp [toB, ByteArray.size]
    rw [List.take_of_length_le (by omega)]
/-- The text of a fraction. -/
def pre (x : Dw) : List UInt8 := itoa x.n.a ++ 44 :: (itoa x.n.b ++ 44 :: (itoa x.n.c ++ 44 :: itoa x.n.d))
def txt (x : Dw) : List UInt8 := pre x ++ 47 :: itoa x.e
def textD (x : Dw) : ByteArray := if x.ok then toB (txt x) else toB []
theorem textD_of {x : Dw} (h : x.ok) : textD x = toB (txt x) := if_pos h
theorem textD_no {x : Dw} (h : ¬ x.ok) : textD x = toB [] := if_neg h
theorem pre_pcs (x : Dw) : pcs 44 (toB (pre x)) = [toB (itoa x.n.a), toB (itoa x.n.b), toB (itoa x.n.c), toB (itoa x.n.d)] := by
  unfold pre
  rw [pcs_app (num_no (itoa_num _) (.inl rfl)), pcs_app (num_no (itoa_num _) (.inl rfl)), pcs_app (num_no (itoa_num _) (.inl rfl)), pcs_one (num_no (itoa_num _) (.inl rfl))]
theorem pre_no (x : Dw) : (47 : UInt8) ∉ pre x := by
  unfold pre
  simp only [List.mem_append, List.mem_cons]
  rintro (h | h | h | h | h | h | h)
  · exact num_no (itoa_num _) (.inr rfl) h
  · exact absurd h (by decide)
  · exact num_no (itoa_num _) (.inr rfl) h
  · exact absurd h (by decide)
  · exact num_no (itoa_num _) (.inr rfl) h
  · exact absurd h (by decide)
  · exact num_no (itoa_num _) (.inr rfl) h
theorem txt_pcs (x : Dw) : pcs 47 (toB (txt x)) = [toB (pre x), toB (itoa x.e)] := by
  unfold txt
  rw [pcs_app (pre_no x), pcs_one (num_no (itoa_num _) (.inr rfl))]
theorem txt_ne (x : Dw) : txt x ≠ [] := by unfold txt; simp
theorem ok_bounds {x : Dw} (h : x.ok) : (-1073741824 ≤ x.n.a ∧ x.n.a ≤ 1073741824) ∧ (-1073741824 ≤ x.n.b ∧ x.n.b ≤ 1073741824) ∧ (-1073741824 ≤ x.n.c ∧ x.n.c ≤ 1073741824) ∧ (-1073741824 ≤ x.n.d ∧ x.n.d ≤ 1073741824) ∧ 0 ≤ x.e ∧ x.e ≤ 60 :=
  ⟨h.1.1, h.1.2.1, h.1.2.2.1, h.1.2.2.2, h.2.1, h.2.2.1⟩
/-- Equal texts are of equal fractions. -/
theorem txt_inj {x y : Dw} (hx : x.ok) (hy : y.ok) (h : txt x = txt y) : x = y := by
  have h1 := txt_pcs x
  rw [h, txt_pcs y] at h1
  have hp := toB_inj (List.cons.inj h1).1
  have he := toB_inj (List.cons.inj (List.cons.inj h1).2).1
  have h2 := pre_pcs x
  rw [← hp, pre_pcs y] at h2
  have ha := toB_inj (List.cons.inj h2).1
  have h3 := (List.cons.inj h2).2
  have hb := toB_inj (List.cons.inj h3).1
  have h4 := (List.cons.inj h3).2
  have hc := toB_inj (List.cons.inj h4).1
  have hd := toB_inj (List.cons.inj (List.cons.inj h4).2).1
  obtain ⟨⟨a0, a1⟩, ⟨b0, b1⟩, ⟨c0, c1⟩, ⟨d0, d1⟩, e0, e1⟩ := ok_bounds hx
  obtain ⟨⟨p0, p1⟩, ⟨q0, q1⟩, ⟨r0, r1⟩, ⟨s0, s1⟩, t0, t1⟩ := ok_bounds hy
  have ea := itoa_inj64 ha (by omega) (by omega) (by omega) (by omega)
  have eb := itoa_inj64 hb (by omega) (by omega) (by omega) (by omega)
  have ec := itoa_inj64 hc (by omega) (by omega) (by omega) (by omega)
  have ed := itoa_inj64 hd (by omega) (by omega) (by omega) (by omega)
  have ee := itoa_inj64 he (by omega) (by omega) (by omega) (by omega)
  obtain ⟨⟨a, b, c, d⟩, e⟩ := x
  obtain ⟨⟨p, q, r, s⟩, t⟩ := y
  simp only [] at ea eb ec ed ee
  subst ea eb ec ed ee
  rfl
/-- ParseDOmega: the valid fraction whose text is s. -/
def Reads (s : ByteArray) (x : Dw) : Prop := x.ok ∧ toB (txt x) = s
theorem reads_one {s : ByteArray} {x y : Dw} (hx : Reads s x) (hy : Reads s y) : x = y := txt_inj hx.1 hy.1 (toB_inj (hx.2.trans hy.2.symm))
open Classical in
noncomputable def parseV (s : ByteArray) : Dw := if h : ∃ x, Reads s x then Classical.choose h else .zero
open Classical in
noncomputable def parseB (s : ByteArray) : Bool := decide (∃ x, Reads s x)
theorem parse_yes {s : ByteArray} {x : Dw} (h : Reads s x) : parseV s = x ∧ parseB s = true := by
  have he : ∃ x, Reads s x := ⟨x, h⟩
  refine ⟨?_, by simp only [parseB, decide_eq_true_eq]; exact he⟩
  rw [parseV, dif_pos he]
  exact reads_one (Classical.choose_spec he) h
theorem parse_no {s : ByteArray} (h : ∀ x, ¬ Reads s x) : parseV s = .zero ∧ parseB s = false := by
  have he : ¬ ∃ x, Reads s x := fun ⟨x, hx⟩ => h x hx
  exact ⟨by rw [parseV, dif_neg he], by simp only [parseB, decide_eq_false_iff_not]; exact he⟩
theorem parse_reads {s : ByteArray} (h : parseB s = true) : Reads s (parseV s) := by
  by_cases he : ∃ x, Reads s x
  · rw [parseV, dif_pos he]; exact Classical.choose_spec he
  · rw [(parse_no (fun x hx => he ⟨x, hx⟩)).2] at h; cases h
theorem parse_text {x : Dw} : parseB (textD x) = decide x.ok ∧ (x.ok → parseV (textD x) = x) := by
  by_cases h : x.ok
  · have hr : Reads (textD x) x := ⟨h, (textD_of h).symm⟩
    exact ⟨by rw [(parse_yes hr).2]; exact (decide_eq_true h).symm, fun _ => (parse_yes hr).1⟩
  · refine ⟨?_, fun k => absurd k h⟩
    rw [textD_no h, (parse_no (fun y hy => ?_)).2]
    · exact (decide_eq_false h).symm
    · exact txt_ne y (toB_inj hy.2)
/-- A value that was read from a piece: if the piece is a numeral within the limits, it is that number. -/
def Got (p : ByteArray) (lo hi v : Int) : Prop := ∀ n : Int, lo ≤ n → n ≤ hi → itoa n = p.data.toList → v = n
/-- The pieces' values are the fraction's, if there is one with this text. -/
theorem cand {s p0 p1 q0 q1 q2 q3 : ByteArray} {a b c d e : Int} (h2 : pcs 47 s = [p0, p1]) (h4 : pcs 44 p0 = [q0, q1, q2, q3])
    (ga : Got q0 (-999999999999) 999999999999 a) (gb : Got q1 (-999999999999) 999999999999 b) (gc : Got q2 (-999999999999) 999999999999 c) (gd : Got q3 (-999999999999) 999999999999 d) (ge : Got p1 0 999999 e)
    {x : Dw} (h : Reads s x) : x = ⟨⟨a, b, c, d⟩, e⟩ := by
  obtain ⟨hok, hs⟩ := h
  rw [← hs, txt_pcs] at h2
  obtain ⟨e0, h2⟩ := List.cons.inj h2
  obtain ⟨e1, _⟩ := List.cons.inj h2
  rw [← e0, pre_pcs] at h4
  obtain ⟨f0, h4⟩ := List.cons.inj h4
  obtain ⟨f1, h4⟩ := List.cons.inj h4
  obtain ⟨f2, h4⟩ := List.cons.inj h4
  obtain ⟨f3, _⟩ := List.cons.inj h4
  obtain ⟨⟨a0, a1⟩, ⟨b0, b1⟩, ⟨c0, c1⟩, ⟨d0, d1⟩, k0, k1⟩ := ok_bounds hok
  have va := ga x.n.a (by omega) (by omega) (by rw [← f0]; rfl)
  have vb := gb x.n.b (by omega) (by omega) (by rw [← f1]; rfl)
  have vc := gc x.n.c (by omega) (by omega) (by rw [← f2]; rfl)
  have vd := gd x.n.d (by omega) (by omega) (by rw [← f3]; rfl)
  have ve := ge x.e (by omega) (by omega) (by rw [← e1]; rfl)
  obtain ⟨⟨p, q, r, t⟩, u⟩ := x
  simp only [] at va vb vc vd ve
  subst va vb vc vd ve
  rfl
/-- There is none if the pieces are not two and four. -/
theorem none_two {s : ByteArray} (h : (pcs 47 s).length ≠ 2) (x : Dw) : ¬ Reads s x := by
  rintro ⟨_, hs⟩
  rw [← hs, txt_pcs] at h
  exact h rfl
theorem none_four {s p0 p1 : ByteArray} (h2 : pcs 47 s = [p0, p1]) (h : (pcs 44 p0).length ≠ 4) (x : Dw) : ¬ Reads s x := by
  rintro ⟨_, hs⟩
  rw [← hs, txt_pcs] at h2
  rw [← (List.cons.inj h2).1, pre_pcs] at h
  exact h rfl
theorem txt_len {x : Dw} (h : x.ok) : (txt x).length ≤ 120 := by
  obtain ⟨⟨a0, a1⟩, ⟨b0, b1⟩, ⟨c0, c1⟩, ⟨d0, d1⟩, e0, e1⟩ := ok_bounds h
  have := itoa_len x.n.a (by omega) (by omega)
  have := itoa_len x.n.b (by omega) (by omega)
  have := itoa_len x.n.c (by omega) (by omega)
  have := itoa_len x.n.d (by omega) (by omega)
  have := itoa_len x.e (by omega) (by omega)
  unfold txt pre
  simp only [List.length_append, List.length_cons]
  omega
end Go.Proofs.Ytgicldokglpimaa
namespace Go.Proofs.Ytgicldokglpimaa
open Go.RowKit Go.Lib
end Go.Proofs.Ytgicldokglpimaa
namespace Go.Proofs.Ytgicldokglpimaa
open Go.RowKit Go.Lib
theorem join_snoc (l : List (List UInt8)) (x sep : List UInt8) (h : l ≠ []) : join (l ++ [x]) sep = join l sep ++ (sep ++ x) := by
  cases l with
  | nil => exact absurd rfl h
  | cons y r => rw [List.cons_append, join_cons, join_cons]; simp [joinTail]
/-- The first k elements joined. -/
def joinK (f : Nat → ByteArray) (sep : List UInt8) (k : Nat) : List UInt8 := join ((List.range k).map fun j => (f j).data.toList) sep
theorem joinK_zero (f : Nat → ByteArray) (sep : List UInt8) : joinK f sep 0 = [] := rfl
theorem joinK_one (f : Nat → ByteArray) (sep : List UInt8) : joinK f sep 1 = (f 0).data.toList := join_one _ _
theorem joinK_succ (f : Nat → ByteArray) (sep : List UInt8) (k : Nat) (h : 0 < k) : joinK f sep (k + 1) = joinK f sep k ++ (sep ++ (f k).data.toList) := by
  unfold joinK
  rw [List.range_succ, List.map_append]
  exact join_snoc _ _ _ (by intro e; have := congrArg List.length e; simp at this; omega)
theorem joinK_len (f : Nat → ByteArray) (sep : List UInt8) : ∀ k, (joinK f sep k).length ≤ k * sep.length + totS f k
  | 0 => by simp [joinK_zero]
  | 1 => by simp [joinK_one, totS]
  | k + 2 => by
    have := joinK_len f sep (k + 1)
    rw [joinK_succ f sep (k + 1) (by omega)]
    simp only [List.length_append, totS, Array.length_toList] at this ⊢
    have e : (k + 2) * sep.length = (k + 1) * sep.length + sep.length := by rw [show k + 2 = (k + 1) + 1 by omega, Nat.succ_mul]
    have e2 : (f (k + 1)).data.size = (f (k + 1)).size := rfl
    omega
theorem infoByte : (Try.prog.info? 5).map (fun i => (i.zero, i.size, i.bytes)) = some (some (.int .u8 0), 1, 1) := by kernel_rfl
/-- The cells of bytes. -/
abbrev bcells (l : List UInt8) : List Value := l.map fun c => Value.int .u8 (c.toNat : Int)
theorem push_all : ∀ (l : List UInt8) (acc : ByteArray), (l.map fun c => (c.toNat : Int)).foldl (fun r n => r.push (UInt8.ofNat n.toNat)) acc = ⟨acc.data ++ l.toArray⟩
  | [], acc => by simp
  | c :: l, acc => by
    simp only [List.map_cons, List.foldl_cons]
    rw [push_all l]
    have e : UInt8.ofNat ((c.toNat : Int)).toNat = c := by simp
    rw [e]
    apply ByteArray.ext
    show (acc.data.push c) ++ l.toArray = acc.data ++ (c :: l).toArray
    simp
theorem conv_own (l : List UInt8) (base g cap : Nat) (w : World) (h : w.ownsRow base 5 1 (.slice (some ⟨g, 0, none⟩) l.length cap) l.length (bcells l)) :
    (convert 22 9 (.slice (some ⟨g, 0, none⟩) l.length cap)).run Try.prog w = .ok (.string ⟨l.toArray⟩) w := by
  rw [run_convert_bytes_string _ _ _ 5 _ _ _ Try.underlying22 Try.underlying5 Try.underlying9]
  rw [run_bytesToString _ _ _ _ (l.map fun c => (c.toNat : Int)) ?_]
  · rw [push_all]
    congr 2
    apply ByteArray.ext
    show #[] ++ l.toArray = l.toArray
    simp
  · have := run_loadCells_list (P := Try.prog) (w := w) ⟨g, 0, none⟩ (bcells l) (h.cells (by rfl))
    simpa [bcells, Function.comp_def] using this
end Go.Proofs.Ytgicldokglpimaa
