/- The model's ParseGate. -/
import Derived.Test.YtbnkanlebjpkfaaDoorTcF
import Derived.Test.YtbnkanlebjpkfaaDoorB05
import Derived.Test.YtbnkanlebjpkfaaDoorB14
import Derived.Deep.AppendLies
namespace Go.Proofs.YtbnkanlebjpkfaaDoor
open Go.RowKit Go.Lib
/-- The words of a text, and three empty ones. -/
def wordsG (s : ByteArray) (j : Nat) : ByteArray := (pcs 32 s ++ [ByteArray.mk #[], ByteArray.mk #[], ByteArray.mk #[]]).getD j ByteArray.empty
theorem wordsG_at {s p : ByteArray} {l : List ByteArray} {j : Nat} (h : pcs 32 s = l) (hj : l[j]? = some p) : wordsG s j = p := by
  unfold wordsG
  have hlt : j < l.length := by
    rcases Nat.lt_or_ge j l.length with h' | h'
    · exact h'
    · rw [List.getElem?_eq_none h'] at hj; cases hj
  rw [h, List.getD_eq_getElem?_getD, List.getElem?_append_left hlt, hj]; rfl
theorem wordsG_small {s : ByteArray} (hs : s.size ≤ 1048576) (j : Nat) : (wordsG s j).size ≤ 1048576 := by
  unfold wordsG
  rw [List.getD_eq_getElem?_getD]
  cases h : (pcs 32 s ++ [ByteArray.mk #[], ByteArray.mk #[], ByteArray.mk #[]])[j]? with
  | none => decide
  | some p =>
    have hm := List.mem_of_getElem? h
    rcases List.mem_append.1 hm with hm | hm
    · exact Nat.le_trans (pcs_small 32 _ s (Nat.le_refl _) p hm) hs
    · simp only [List.mem_cons, List.not_mem_nil, or_false] at hm
      rcases hm with rfl | rfl | rfl <;> decide
theorem pg_cand {s : ByteArray} {a b c : Int} (ga : 0 < ar (gkV (wordsG s 0)) → Got (wordsG s 1) 0 999999 a) (gb : 1 < ar (gkV (wordsG s 0)) → Got (wordsG s 2) 0 999999 b) (gc : 2 < ar (gkV (wordsG s 0)) → Got (wordsG s 3) 0 999999 c)
    (zb : ar (gkV (wordsG s 0)) ≤ 1 → b = 0) (zc : ar (gkV (wordsG s 0)) ≤ 2 → c = 0) {g : Gt} (h : gtB g 4 = true) (e : toB (gtT g) = s) : g = ⟨gkV (wordsG s 0), a, b, c⟩ := by
  obtain ⟨-, hk, ha, hb, hc⟩ := gtB_parts h
  have hp : pcs 32 s = nmB g.k :: (gqs g).map fun q => toB (itoa q) := by rw [← e, gtT_pcs hk]
  have hw0 : wordsG s 0 = nmB g.k := wordsG_at hp rfl
  rw [hw0, gkV_of hk] at ga gb gc zb zc ⊢
  obtain ⟨k, x, y, z⟩ := g
  simp only at hk ha hb hc ga gb gc zb zc ⊢
  rcases gtB_fields h with ⟨r, q, q1, q2⟩ | ⟨r, q, q1⟩ | ⟨r, q⟩
  · simp only at r q q1 q2
    have h1 := ga (by omega) x (by omega) (by omega) (by rw [wordsG_at hp (p := toB (itoa x)) (by rw [q]; rfl)]; rfl)
    rw [h1, zb (by omega), zc (by omega), q1, q2]
  · simp only at r q q1
    have h1 := ga (by omega) x (by omega) (by omega) (by rw [wordsG_at hp (p := toB (itoa x)) (by rw [q]; rfl)]; rfl)
    have h2 := gb (by omega) y (by omega) (by omega) (by rw [wordsG_at hp (p := toB (itoa y)) (by rw [q]; rfl)]; rfl)
    rw [h1, h2, zc (by omega), q1]
  · simp only at r q
    have h1 := ga (by omega) x (by omega) (by omega) (by rw [wordsG_at hp (p := toB (itoa x)) (by rw [q]; rfl)]; rfl)
    have h2 := gb (by omega) y (by omega) (by omega) (by rw [wordsG_at hp (p := toB (itoa y)) (by rw [q]; rfl)]; rfl)
    have h3 := gc (by omega) z (by omega) (by omega) (by rw [wordsG_at hp (p := toB (itoa z)) (by rw [q]; rfl)]; rfl)
    rw [h1, h2, h3]
theorem gtT_ne {g : Gt} (h : gtB g 4 = true) : toB (gtT g) ≠ ByteArray.mk #[] := fun e => by
  have h1 : gtT g = [] := toB_inj (e.trans (show ByteArray.mk #[] = toB [] from rfl))
  unfold gtT at h1
  exact (nm_plain (gtB_parts h).2.1).2.2.2 (List.append_eq_nil_iff.1 h1).1
theorem gtxt_hit {g : Gt} {s : ByteArray} (h : gtxt g = s) (hs : s ≠ ByteArray.mk #[]) : gtB g 4 = true ∧ toB (gtT g) = s := by
  unfold gtxt at h
  split at h
  · exact ⟨by assumption, h⟩
  · exact absurd h.symm hs
theorem strrow_own {W : World} {B g n cap : Nat} {l : List Value} {f : Nat → ByteArray} (h : W.ownsRow B 9 1 (.slice (some ⟨g, 0, none⟩) n cap) n l) (hn : 0 < n) (hf : ∀ j, j < n → l[j]? = some (.string (f j))) : StrRow W g n f := by
  rcases h.2 with ⟨_, h2⟩ | ⟨g', cap', cur, hv, hb, hg, _, _, hs, ht⟩
  · omega
  · injection hv with hv1 hv2
    injection hv1 with hv1
    injection hv1 with hv1
    subst hv1
    refine ⟨cur, hg, fun j hj => ?_⟩
    have e := congrArg (fun x : List Value => x[j]?) ht
    simp only [List.getElem?_take, Nat.mul_one, if_pos hj] at e
    rw [← Array.getElem?_toList, e, hf j hj]
theorem own_ge {W : World} {B g n : Nat} {e : TypeId} {v : Value} {l : List Value} (h : W.ownsRow B e 1 v n l) (hv : v.ownBlock = some g) : B ≤ g := by
  rcases h.2 with ⟨h1, _⟩ | ⟨g', cap', cur, hv', hb, -⟩
  · have e1 := h1
    subst e1
    cases hv
  · subst hv'
    cases hv
    exact hb
theorem infoSt : (Tryd.prog.info? 9).map (fun i => (i.zero, i.size, i.bytes)) = some (some (.string ⟨#[]⟩), 1, 16) := by kernel_rfl
attribute [local irreducible] World.cell?
set_option maxRecDepth 100000 in
set_option maxHeartbeats 12800000 in
theorem sparseG (s : ByteArray) (w : World) (hs : s.size ≤ 1048576) :
    Calls Tryd.prog 11 #[.string s] w fun e w' => e = .returned (.tuple #[(.agg #[.int .i64 (pgV s).k, .int .i64 (pgV s).a, .int .i64 (pgV s).b, .int .i64 (pgV s).c]), .bool (pgB s)]) ∧ Below w.heap.size w w' := by
  obtain ⟨i0, hi, hz0, hz1, hz2⟩ := info_parts infoSt
  have HR := Lib.hid (heap_alloc_new w (.cells #[.int .i64 0, .int .i64 0, .int .i64 0, .int .i64 0] 25))
  have Hb0 := Lib.hid (show Below w.heap.size w (w.alloc (.cells #[.int .i64 0, .int .i64 0, .int .i64 0, .int .i64 0] 25)) by go_grown)
  have Hsp := Lib.hid (fun W => split_any s 32 W hs)
  have hPl := pcs_len_le 32 s
  have hP0 : 0 < (pcs 32 s).length := by rw [pcs_len]; omega
  have Hsm := Lib.hid (fun j => wordsG_small hs j)
  have Hcand := Lib.hid (fun (a b c : Int) ga gb gc zb zc (g : Gt) (h1 : gtB g 4 = true) (h2 : toB (gtT g) = s) => pg_cand (s := s) (a := a) (b := b) (c := c) ga gb gc zb zc h1 h2)
  have Hy := Lib.hid (fun (g : Gt) (h1 : gtB g 4 = true) (h2 : toB (gtT g) = s) => pg_yes h1 h2)
  have Hn := Lib.hid (fun (h : ∀ g, gtB g 4 = true → toB (gtT g) ≠ s) => pg_no h)
  have Hwd := Lib.hid (fun j (hj : j < (pcs 32 s).length + 3) => show ((pcs 32 s ++ [ByteArray.mk #[], ByteArray.mk #[], ByteArray.mk #[]]).map Value.string)[j]? = some (.string (wordsG s j)) by
    have hlt : j < (pcs 32 s ++ [ByteArray.mk #[], ByteArray.mk #[], ByteArray.mk #[]]).length := by simpa using hj
    unfold wordsG
    rw [List.getElem?_map, List.getD_eq_getElem?_getD, List.getElem?_eq_getElem hlt]; rfl)
  generalize hP : pcs 32 s = P at *
  clear hP
  generalize pgV s = V at *
  generalize pgB s = PB at *
  go_enter Tryd.func11, Tryd.ntmps11
  go_wp2_with fail
  refine (Hsp.out _).mono ?_
  rintro e w1 ⟨⟨v, rfl, ho⟩, hb1⟩
  have HR1 := Lib.hid (below_blk hb1 (lt_of_block HR.out) HR.out)
  have Hb1 := Lib.hid (below_nx Hb0.out hb1)
  have Ho := Lib.hid ho
  have hs1 := hb1.size
  simp at hs1
  clear hb1 ho
  go_wp2_with (first
    | (at_builtin; refine wpList_append_lies _ rfl _ _ 51 rfl (w.alloc (.cells #[.int .i64 0, .int .i64 0, .int .i64 0, .int .i64 0] 25)).heap.size 9 i0 (.string ⟨#[]⟩) 1 16 Tryd.underlying51 hi hz0 hz1 hz2 rfl (by decide) _ _ _ rfl (Ho.out.alloc _) ⟨w1.heap.size, 0, none⟩ 3 3 [.string ⟨#[]⟩, .string ⟨#[]⟩, .string ⟨#[]⟩] rfl rfl (World.news_of_block (heap_alloc_new w1 _)) (by intro u hu; simp at hu; rw [hu]; rfl) (by decide) ?d3 ?d4 ?d5 (w1.heap.size + 1) (by simp) ?_))
  case d3 => unfold maxLen; omega
  case d4 => omega
  case d5 => simp; omega
  intro g cap w2 hown hgrow hat hlt
  have hr := strrow_own (f := wordsG s) hown (by omega) (fun j hj => by rw [show (List.map Value.string P ++ [Value.string { data := #[] }, Value.string { data := #[] }, Value.string { data := #[] }]) = (P ++ [ByteArray.mk #[], ByteArray.mk #[], ByteArray.mk #[]]).map Value.string by simp]; exact Hwd.out j hj)
  have hgl : w.heap.size + 1 ≤ g := by
    rcases hat with h | h
    · have := own_ge Ho.out h
      simpa using this
    · omega
  have hrk : ∀ k, v.ownBlock = some k → w.heap.size + 1 ≤ k := fun k hk => by
    have := own_ge Ho.out hk
    simpa using this
  have Hb2 := Lib.hid (show Below w.heap.size w w2 from (Hb1.out.alloc Hb1.out.size _).grown hgrow (by simp; omega) (fun k hk => by have := hrk k hk; omega))
  have hr0 := (hgrow.block w.heap.size (by simp; omega) (fun hk => by have := hrk _ hk.symm; omega)).trans (alloc_blk (.cells #[.string ⟨#[]⟩, .string ⟨#[]⟩, .string ⟨#[]⟩] 9) HR1.out)
  clear hown hgrow hat hrk HR1 Hb1 Ho Hwd
  obtain ⟨cs, hrow, hcs⟩ := hr
  have Hrow := Lib.hid hrow
  have Hcs := Lib.hid hcs
  have Hr0 := Lib.hid hr0
  have Hk := Lib.hid (fun W => sgkind (wordsG s 0) W)
  have hx := cell_at hrow 0 _ (hcs 0 (by omega))
  clear hrow hcs hr0
  have HA := Lib.hid (fun W => sar (gkV (wordsG s 0)) W)
  go_wp2_with fail
  refine (Hk.out _).mono ?_
  rintro e w3 ⟨rfl, hb3⟩
  clear hx
  have hg3 : g < w3.heap.size := lt_of_block (below_blk hb3 hlt Hrow.out)
  have hz3 : w.heap.size < w3.heap.size := lt_of_block (below_blk hb3 (lt_of_block Hr0.out) Hr0.out)
  have hbn := below_nx Hb2.out hb3
  generalize gkV (wordsG s 0) = k at *
  generalize wordsG s = f at *
  have Hrw := Lib.hid (alloc_blk (.cells #[.int .i64 k, .int .i64 0, .int .i64 0, .int .i64 0] 25) (below_blk hb3 hlt Hrow.out))
  have Hr := Lib.hid (alloc_blk (.cells #[.int .i64 k, .int .i64 0, .int .i64 0, .int .i64 0] 25) (below_blk hb3 (lt_of_block Hr0.out) Hr0.out))
  have Hg := Lib.hid (heap_alloc_new w3 (.cells #[.int .i64 k, .int .i64 0, .int .i64 0, .int .i64 0] 25))
  have Hb := Lib.hid (hbn.alloc hbn.size (.cells #[.int .i64 k, .int .i64 0, .int .i64 0, .int .i64 0] 25))
  have zg : g ≠ w3.heap.size := by omega
  have zr : w.heap.size ≠ w3.heap.size := by omega
  have zq := Lib.hid (And.intro hg3 hz3)
  clear Hrow Hr0 Hb2 hb3 hbn hlt hgl hs1 hg3 hz3
  have h3 := ar_le k
  have hx := cell_at Hrw.out 1 _ (Hcs.out 1 (by omega))
  have rr := Hr.out
  have rg := Hg.out
  obtain ⟨e0, e1, e2, e3⟩ := blk_cells rr
  obtain ⟨gx0, gx1, gx2, gx3⟩ := blk_cells rg
  have f0 := fun o => free_at rr o
  have gf := fun o => free_at rg o
  have zk0 := lt_of_block rr
  have zk6 := lt_of_block rg
  clear rr rg
  rcases (show ar k = 0 ∨ ar k = 1 ∨ ar k = 2 ∨ ar k = 3 by omega) with hm | hm | hm | hm
  · have HA1 := Lib.hid (show ∀ W, Calls Tryd.prog 35 #[.int .i64 k] W (fun e w' => e = .returned (.int .i64 0) ∧ W = w') from fun W => by have h := HA.out W; rw [hm] at h; exact h)
    clear HA
    go_wp2_with fail
    refine (HA1.out _).mono ?_
    rintro e w3a ⟨rfl, rfl⟩
    clear HA1
    have Hc := Lib.hid (Hcand.out 0 0 0 (fun h => by omega) (fun h => by omega) (fun h => by omega) (fun _ => rfl) (fun _ => rfl))
    have Hx := Lib.hid (fun W => sfmtG (Gt.mk k 0 0 0) W)
    have Hh := Lib.hid (fun h => gtxt_hit (g := (Gt.mk k 0 0 0)) (s := s) h)
    have Hu := Lib.hid (show gtB (Gt.mk k 0 0 0) 4 = true → gtxt (Gt.mk k 0 0 0) = toB (gtT (Gt.mk k 0 0 0)) from fun h => by unfold gtxt; rw [if_pos h])
    clear Hcand hm
    generalize hT : gtxt (Gt.mk k 0 0 0) = T at *
    have HT := Lib.hid hT
    clear hT
    by_cases hse : s = ByteArray.mk #[]
    · have hb0 : s.toList = [] := by rw [hse, ByteArray.toList_eq]
      obtain ⟨rfl, rfl⟩ := Hn.out (fun g h e => gtT_ne h (e.trans hse))
      clear hse
      go_wp2_with fail
      obtain ⟨k0, k1, k2, k3⟩ := blk_cells (set4_at (u0 := .int .i64 0) (u1 := .int .i64 0) (u2 := .int .i64 0) (u3 := .int .i64 0) Hr.out)
      refine bodyPost_ret (v := .tuple #[(.agg #[.int .i64 (Gt.mk 0 0 0 0).k, .int .i64 (Gt.mk 0 0 0 0).a, .int .i64 (Gt.mk 0 0 0 0).b, .int .i64 (Gt.mk 0 0 0 0).c]), .bool false]) (by simp only [results, Tryd.results11]; simp [go_sem, k0, k1, k2, k3]) rfl ⟨rfl, ?_⟩
      have := Hb.out
      go_grown
    · have hb0 : ¬ s.toList = [] := fun h => hse (ByteArray.ext (Array.toList_inj.1 (by rw [ByteArray.toList_eq] at h; rw [h])))
      go_wp2_with fail
      refine (Hx.out _).mono ?_
      rintro e w8 ⟨rfl, hb⟩
      clear e0 e1 e2 e3 gx0 gx1 gx2 gx3 f0 gf zk0 zk6
      have rr := below_blk hb (lt_of_block Hr.out) Hr.out
      have rg := below_blk hb (lt_of_block Hg.out) Hg.out
      have hbb := below_nx Hb.out hb
      clear Hr Hg Hb hb
      obtain ⟨e0, e1, e2, e3⟩ := blk_cells rr
      obtain ⟨gx0, gx1, gx2, gx3⟩ := blk_cells rg
      have f0 := fun o => free_at rr o
      have gf := fun o => free_at rg o
      have zk0 := lt_of_block rr
      have zk6 := lt_of_block rg
      have Hr := Lib.hid rr
      have Hb := Lib.hid hbb
      clear rr rg hbb
      have hie : s.toList.isEmpty = false := by rw [List.isEmpty_eq_false_iff]; exact hb0
      by_cases hTs : T = s
      · subst hTs
        obtain ⟨hv, hw⟩ := Hh.out rfl hse
        obtain ⟨rfl, rfl⟩ := Hy.out _ hv hw
        clear hv hw hse
        have hbe := bytes_yes T
        go_wp2_with fail
        obtain ⟨k0, k1, k2, k3⟩ := blk_cells (set4_at (u0 := .int .i64 k) (u1 := .int .i64 0) (u2 := .int .i64 0) (u3 := .int .i64 0) Hr.out)
        refine bodyPost_ret (v := .tuple #[(.agg #[.int .i64 (Gt.mk k 0 0 0).k, .int .i64 (Gt.mk k 0 0 0).a, .int .i64 (Gt.mk k 0 0 0).b, .int .i64 (Gt.mk k 0 0 0).c]), .bool true]) (by simp only [results, Tryd.results11]; simp [go_sem, k0, k1, k2, k3]) rfl ⟨rfl, ?_⟩
        have := Hb.out
        go_grown
      · obtain ⟨rfl, rfl⟩ := Hn.out (fun g h e => by
          obtain rfl := Hc.out g h e
          exact hTs ((Hu.out h).trans e))
        have hbe := bytes_no hTs
        clear hTs hse
        go_wp2_with fail
        obtain ⟨k0, k1, k2, k3⟩ := blk_cells (set4_at (u0 := .int .i64 0) (u1 := .int .i64 0) (u2 := .int .i64 0) (u3 := .int .i64 0) Hr.out)
        refine bodyPost_ret (v := .tuple #[(.agg #[.int .i64 (Gt.mk 0 0 0 0).k, .int .i64 (Gt.mk 0 0 0 0).a, .int .i64 (Gt.mk 0 0 0 0).b, .int .i64 (Gt.mk 0 0 0 0).c]), .bool false]) (by simp only [results, Tryd.results11]; simp [go_sem, k0, k1, k2, k3]) rfl ⟨rfl, ?_⟩
        have := Hb.out
        go_grown
  · have HA1 := Lib.hid (show ∀ W, Calls Tryd.prog 35 #[.int .i64 k] W (fun e w' => e = .returned (.int .i64 1) ∧ W = w') from fun W => by have h := HA.out W; rw [hm] at h; exact h)
    clear HA
    go_wp2_with fail
    refine (HA1.out _).mono ?_
    rintro e w3a ⟨rfl, rfl⟩
    clear HA1
    have Hi := Lib.hid (spnum (f 1) (Hsm.out 1))
    go_wp2_with fail
    refine (Hi.out _).mono ?_
    rintro e w4 ⟨⟨a, t0, rfl, ga, a0, a1⟩, hb⟩
    clear Hi hx e0 e1 e2 e3 gx0 gx1 gx2 gx3 f0 gf zk0 zk6
    have rw := below_blk hb (lt_of_block Hrw.out) Hrw.out
    have rr := below_blk hb (lt_of_block Hr.out) Hr.out
    have rg := below_blk hb (lt_of_block Hg.out) Hg.out
    have hbb := below_nx Hb.out hb
    clear Hrw Hr Hg Hb hb
    obtain ⟨e0, e1, e2, e3⟩ := blk_cells rr
    obtain ⟨gx0, gx1, gx2, gx3⟩ := blk_cells rg
    have f0 := fun o => free_at rr o
    have gf := fun o => free_at rg o
    have zk0 := lt_of_block rr
    have zk6 := lt_of_block rg
    have hx := cell_at rw 2 _ (Hcs.out 2 (by omega))
    have Hrw := Lib.hid (set1_blk (g := w3.heap.size) (o := 1) (u := .int .i64 a) zg rw)
    have Hr := Lib.hid (set1_blk (g := w3.heap.size) (o := 1) (u := .int .i64 a) zr rr)
    have Hg := Lib.hid (show (w4.setCell ⟨w3.heap.size, 1, none⟩ (.int .i64 a)).heap[w3.heap.size]? = some (.cells #[.int .i64 k, .int .i64 a, .int .i64 0, .int .i64 0] 25 (0, 0)) from heap_set rg 1 (.int .i64 a))
    have Hb := Lib.hid (hbb.setCell (p := ⟨w3.heap.size, 1, none⟩) (by have := zq.out.2; exact Nat.le_of_lt this) (.int .i64 a))
    clear rw rr rg hbb
    have Hc := Lib.hid (Hcand.out a 0 0 (fun _ => ga) (fun h => by omega) (fun h => by omega) (fun _ => rfl) (fun _ => rfl))
    have Hx := Lib.hid (fun W => sfmtG (Gt.mk k a 0 0) W)
    have Hh := Lib.hid (fun h => gtxt_hit (g := (Gt.mk k a 0 0)) (s := s) h)
    have Hu := Lib.hid (show gtB (Gt.mk k a 0 0) 4 = true → gtxt (Gt.mk k a 0 0) = toB (gtT (Gt.mk k a 0 0)) from fun h => by unfold gtxt; rw [if_pos h])
    clear Hcand hm ga
    generalize hT : gtxt (Gt.mk k a 0 0) = T at *
    have HT := Lib.hid hT
    clear hT
    by_cases hse : s = ByteArray.mk #[]
    · have hb0 : s.toList = [] := by rw [hse, ByteArray.toList_eq]
      obtain ⟨rfl, rfl⟩ := Hn.out (fun g h e => gtT_ne h (e.trans hse))
      clear hse
      go_wp2_with fail
      obtain ⟨k0, k1, k2, k3⟩ := blk_cells (set4_at (u0 := .int .i64 0) (u1 := .int .i64 0) (u2 := .int .i64 0) (u3 := .int .i64 0) Hr.out)
      refine bodyPost_ret (v := .tuple #[(.agg #[.int .i64 (Gt.mk 0 0 0 0).k, .int .i64 (Gt.mk 0 0 0 0).a, .int .i64 (Gt.mk 0 0 0 0).b, .int .i64 (Gt.mk 0 0 0 0).c]), .bool false]) (by simp only [results, Tryd.results11]; simp [go_sem, k0, k1, k2, k3]) rfl ⟨rfl, ?_⟩
      have := Hb.out
      go_grown
    · have hb0 : ¬ s.toList = [] := fun h => hse (ByteArray.ext (Array.toList_inj.1 (by rw [ByteArray.toList_eq] at h; rw [h])))
      go_wp2_with fail
      refine (Hx.out _).mono ?_
      rintro e w8 ⟨rfl, hb⟩
      clear e0 e1 e2 e3 gx0 gx1 gx2 gx3 f0 gf zk0 zk6
      have rr := below_blk hb (lt_of_block Hr.out) Hr.out
      have rg := below_blk hb (lt_of_block Hg.out) Hg.out
      have hbb := below_nx Hb.out hb
      clear Hr Hg Hb hb
      obtain ⟨e0, e1, e2, e3⟩ := blk_cells rr
      obtain ⟨gx0, gx1, gx2, gx3⟩ := blk_cells rg
      have f0 := fun o => free_at rr o
      have gf := fun o => free_at rg o
      have zk0 := lt_of_block rr
      have zk6 := lt_of_block rg
      have Hr := Lib.hid rr
      have Hb := Lib.hid hbb
      clear rr rg hbb
      have hie : s.toList.isEmpty = false := by rw [List.isEmpty_eq_false_iff]; exact hb0
      by_cases hTs : T = s
      · subst hTs
        obtain ⟨hv, hw⟩ := Hh.out rfl hse
        obtain ⟨rfl, rfl⟩ := Hy.out _ hv hw
        clear hv hw hse
        have hbe := bytes_yes T
        go_wp2_with fail
        obtain ⟨k0, k1, k2, k3⟩ := blk_cells (set4_at (u0 := .int .i64 k) (u1 := .int .i64 a) (u2 := .int .i64 0) (u3 := .int .i64 0) Hr.out)
        refine bodyPost_ret (v := .tuple #[(.agg #[.int .i64 (Gt.mk k a 0 0).k, .int .i64 (Gt.mk k a 0 0).a, .int .i64 (Gt.mk k a 0 0).b, .int .i64 (Gt.mk k a 0 0).c]), .bool true]) (by simp only [results, Tryd.results11]; simp [go_sem, k0, k1, k2, k3]) rfl ⟨rfl, ?_⟩
        have := Hb.out
        go_grown
      · obtain ⟨rfl, rfl⟩ := Hn.out (fun g h e => by
          obtain rfl := Hc.out g h e
          exact hTs ((Hu.out h).trans e))
        have hbe := bytes_no hTs
        clear hTs hse
        go_wp2_with fail
        obtain ⟨k0, k1, k2, k3⟩ := blk_cells (set4_at (u0 := .int .i64 0) (u1 := .int .i64 0) (u2 := .int .i64 0) (u3 := .int .i64 0) Hr.out)
        refine bodyPost_ret (v := .tuple #[(.agg #[.int .i64 (Gt.mk 0 0 0 0).k, .int .i64 (Gt.mk 0 0 0 0).a, .int .i64 (Gt.mk 0 0 0 0).b, .int .i64 (Gt.mk 0 0 0 0).c]), .bool false]) (by simp only [results, Tryd.results11]; simp [go_sem, k0, k1, k2, k3]) rfl ⟨rfl, ?_⟩
        have := Hb.out
        go_grown
  · have HA1 := Lib.hid (show ∀ W, Calls Tryd.prog 35 #[.int .i64 k] W (fun e w' => e = .returned (.int .i64 2) ∧ W = w') from fun W => by have h := HA.out W; rw [hm] at h; exact h)
    clear HA
    go_wp2_with fail
    refine (HA1.out _).mono ?_
    rintro e w3a ⟨rfl, rfl⟩
    clear HA1
    have Hi := Lib.hid (spnum (f 1) (Hsm.out 1))
    go_wp2_with fail
    refine (Hi.out _).mono ?_
    rintro e w4 ⟨⟨a, t0, rfl, ga, a0, a1⟩, hb⟩
    clear Hi hx e0 e1 e2 e3 gx0 gx1 gx2 gx3 f0 gf zk0 zk6
    have rw := below_blk hb (lt_of_block Hrw.out) Hrw.out
    have rr := below_blk hb (lt_of_block Hr.out) Hr.out
    have rg := below_blk hb (lt_of_block Hg.out) Hg.out
    have hbb := below_nx Hb.out hb
    clear Hrw Hr Hg Hb hb
    obtain ⟨e0, e1, e2, e3⟩ := blk_cells rr
    obtain ⟨gx0, gx1, gx2, gx3⟩ := blk_cells rg
    have f0 := fun o => free_at rr o
    have gf := fun o => free_at rg o
    have zk0 := lt_of_block rr
    have zk6 := lt_of_block rg
    have hx := cell_at rw 2 _ (Hcs.out 2 (by omega))
    have Hrw := Lib.hid (set1_blk (g := w3.heap.size) (o := 1) (u := .int .i64 a) zg rw)
    have Hr := Lib.hid (set1_blk (g := w3.heap.size) (o := 1) (u := .int .i64 a) zr rr)
    have Hg := Lib.hid (show (w4.setCell ⟨w3.heap.size, 1, none⟩ (.int .i64 a)).heap[w3.heap.size]? = some (.cells #[.int .i64 k, .int .i64 a, .int .i64 0, .int .i64 0] 25 (0, 0)) from heap_set rg 1 (.int .i64 a))
    have Hb := Lib.hid (hbb.setCell (p := ⟨w3.heap.size, 1, none⟩) (by have := zq.out.2; exact Nat.le_of_lt this) (.int .i64 a))
    clear rw rr rg hbb
    have Hi := Lib.hid (spnum (f 2) (Hsm.out 2))
    go_wp2_with fail
    refine (Hi.out _).mono ?_
    rintro e w5 ⟨⟨b, t1, rfl, gb, b0, b1⟩, hb⟩
    clear Hi hx e0 e1 e2 e3 gx0 gx1 gx2 gx3 f0 gf zk0 zk6
    have rw := below_blk hb (lt_of_block Hrw.out) Hrw.out
    have rr := below_blk hb (lt_of_block Hr.out) Hr.out
    have rg := below_blk hb (lt_of_block Hg.out) Hg.out
    have hbb := below_nx Hb.out hb
    clear Hrw Hr Hg Hb hb
    obtain ⟨e0, e1, e2, e3⟩ := blk_cells rr
    obtain ⟨gx0, gx1, gx2, gx3⟩ := blk_cells rg
    have f0 := fun o => free_at rr o
    have gf := fun o => free_at rg o
    have zk0 := lt_of_block rr
    have zk6 := lt_of_block rg
    have hx := cell_at rw 3 _ (Hcs.out 3 (by omega))
    have Hrw := Lib.hid (set1_blk (g := w3.heap.size) (o := 2) (u := .int .i64 b) zg rw)
    have Hr := Lib.hid (set1_blk (g := w3.heap.size) (o := 2) (u := .int .i64 b) zr rr)
    have Hg := Lib.hid (show (w5.setCell ⟨w3.heap.size, 2, none⟩ (.int .i64 b)).heap[w3.heap.size]? = some (.cells #[.int .i64 k, .int .i64 a, .int .i64 b, .int .i64 0] 25 (0, 0)) from heap_set rg 2 (.int .i64 b))
    have Hb := Lib.hid (hbb.setCell (p := ⟨w3.heap.size, 2, none⟩) (by have := zq.out.2; exact Nat.le_of_lt this) (.int .i64 b))
    clear rw rr rg hbb
    have Hc := Lib.hid (Hcand.out a b 0 (fun _ => ga) (fun _ => gb) (fun h => by omega) (fun h => by omega) (fun _ => rfl))
    have Hx := Lib.hid (fun W => sfmtG (Gt.mk k a b 0) W)
    have Hh := Lib.hid (fun h => gtxt_hit (g := (Gt.mk k a b 0)) (s := s) h)
    have Hu := Lib.hid (show gtB (Gt.mk k a b 0) 4 = true → gtxt (Gt.mk k a b 0) = toB (gtT (Gt.mk k a b 0)) from fun h => by unfold gtxt; rw [if_pos h])
    clear Hcand hm ga gb
    generalize hT : gtxt (Gt.mk k a b 0) = T at *
    have HT := Lib.hid hT
    clear hT
    by_cases hse : s = ByteArray.mk #[]
    · have hb0 : s.toList = [] := by rw [hse, ByteArray.toList_eq]
      obtain ⟨rfl, rfl⟩ := Hn.out (fun g h e => gtT_ne h (e.trans hse))
      clear hse
      go_wp2_with fail
      obtain ⟨k0, k1, k2, k3⟩ := blk_cells (set4_at (u0 := .int .i64 0) (u1 := .int .i64 0) (u2 := .int .i64 0) (u3 := .int .i64 0) Hr.out)
      refine bodyPost_ret (v := .tuple #[(.agg #[.int .i64 (Gt.mk 0 0 0 0).k, .int .i64 (Gt.mk 0 0 0 0).a, .int .i64 (Gt.mk 0 0 0 0).b, .int .i64 (Gt.mk 0 0 0 0).c]), .bool false]) (by simp only [results, Tryd.results11]; simp [go_sem, k0, k1, k2, k3]) rfl ⟨rfl, ?_⟩
      have := Hb.out
      go_grown
    · have hb0 : ¬ s.toList = [] := fun h => hse (ByteArray.ext (Array.toList_inj.1 (by rw [ByteArray.toList_eq] at h; rw [h])))
      go_wp2_with fail
      refine (Hx.out _).mono ?_
      rintro e w8 ⟨rfl, hb⟩
      clear e0 e1 e2 e3 gx0 gx1 gx2 gx3 f0 gf zk0 zk6
      have rr := below_blk hb (lt_of_block Hr.out) Hr.out
      have rg := below_blk hb (lt_of_block Hg.out) Hg.out
      have hbb := below_nx Hb.out hb
      clear Hr Hg Hb hb
      obtain ⟨e0, e1, e2, e3⟩ := blk_cells rr
      obtain ⟨gx0, gx1, gx2, gx3⟩ := blk_cells rg
      have f0 := fun o => free_at rr o
      have gf := fun o => free_at rg o
      have zk0 := lt_of_block rr
      have zk6 := lt_of_block rg
      have Hr := Lib.hid rr
      have Hb := Lib.hid hbb
      clear rr rg hbb
      have hie : s.toList.isEmpty = false := by rw [List.isEmpty_eq_false_iff]; exact hb0
      by_cases hTs : T = s
      · subst hTs
        obtain ⟨hv, hw⟩ := Hh.out rfl hse
        obtain ⟨rfl, rfl⟩ := Hy.out _ hv hw
        clear hv hw hse
        have hbe := bytes_yes T
        go_wp2_with fail
        obtain ⟨k0, k1, k2, k3⟩ := blk_cells (set4_at (u0 := .int .i64 k) (u1 := .int .i64 a) (u2 := .int .i64 b) (u3 := .int .i64 0) Hr.out)
        refine bodyPost_ret (v := .tuple #[(.agg #[.int .i64 (Gt.mk k a b 0).k, .int .i64 (Gt.mk k a b 0).a, .int .i64 (Gt.mk k a b 0).b, .int .i64 (Gt.mk k a b 0).c]), .bool true]) (by simp only [results, Tryd.results11]; simp [go_sem, k0, k1, k2, k3]) rfl ⟨rfl, ?_⟩
        have := Hb.out
        go_grown
      · obtain ⟨rfl, rfl⟩ := Hn.out (fun g h e => by
          obtain rfl := Hc.out g h e
          exact hTs ((Hu.out h).trans e))
        have hbe := bytes_no hTs
        clear hTs hse
        go_wp2_with fail
        obtain ⟨k0, k1, k2, k3⟩ := blk_cells (set4_at (u0 := .int .i64 0) (u1 := .int .i64 0) (u2 := .int .i64 0) (u3 := .int .i64 0) Hr.out)
        refine bodyPost_ret (v := .tuple #[(.agg #[.int .i64 (Gt.mk 0 0 0 0).k, .int .i64 (Gt.mk 0 0 0 0).a, .int .i64 (Gt.mk 0 0 0 0).b, .int .i64 (Gt.mk 0 0 0 0).c]), .bool false]) (by simp only [results, Tryd.results11]; simp [go_sem, k0, k1, k2, k3]) rfl ⟨rfl, ?_⟩
        have := Hb.out
        go_grown
  · have HA1 := Lib.hid (show ∀ W, Calls Tryd.prog 35 #[.int .i64 k] W (fun e w' => e = .returned (.int .i64 3) ∧ W = w') from fun W => by have h := HA.out W; rw [hm] at h; exact h)
    clear HA
    go_wp2_with fail
    refine (HA1.out _).mono ?_
    rintro e w3a ⟨rfl, rfl⟩
    clear HA1
    have Hi := Lib.hid (spnum (f 1) (Hsm.out 1))
    go_wp2_with fail
    refine (Hi.out _).mono ?_
    rintro e w4 ⟨⟨a, t0, rfl, ga, a0, a1⟩, hb⟩
    clear Hi hx e0 e1 e2 e3 gx0 gx1 gx2 gx3 f0 gf zk0 zk6
    have rw := below_blk hb (lt_of_block Hrw.out) Hrw.out
    have rr := below_blk hb (lt_of_block Hr.out) Hr.out
    have rg := below_blk hb (lt_of_block Hg.out) Hg.out
    have hbb := below_nx Hb.out hb
    clear Hrw Hr Hg Hb hb
    obtain ⟨e0, e1, e2, e3⟩ := blk_cells rr
    obtain ⟨gx0, gx1, gx2, gx3⟩ := blk_cells rg
    have f0 := fun o => free_at rr o
    have gf := fun o => free_at rg o
    have zk0 := lt_of_block rr
    have zk6 := lt_of_block rg
    have hx := cell_at rw 2 _ (Hcs.out 2 (by omega))
    have Hrw := Lib.hid (set1_blk (g := w3.heap.size) (o := 1) (u := .int .i64 a) zg rw)
    have Hr := Lib.hid (set1_blk (g := w3.heap.size) (o := 1) (u := .int .i64 a) zr rr)
    have Hg := Lib.hid (show (w4.setCell ⟨w3.heap.size, 1, none⟩ (.int .i64 a)).heap[w3.heap.size]? = some (.cells #[.int .i64 k, .int .i64 a, .int .i64 0, .int .i64 0] 25 (0, 0)) from heap_set rg 1 (.int .i64 a))
    have Hb := Lib.hid (hbb.setCell (p := ⟨w3.heap.size, 1, none⟩) (by have := zq.out.2; exact Nat.le_of_lt this) (.int .i64 a))
    clear rw rr rg hbb
    have Hi := Lib.hid (spnum (f 2) (Hsm.out 2))
    go_wp2_with fail
    refine (Hi.out _).mono ?_
    rintro e w5 ⟨⟨b, t1, rfl, gb, b0, b1⟩, hb⟩
    clear Hi hx e0 e1 e2 e3 gx0 gx1 gx2 gx3 f0 gf zk0 zk6
    have rw := below_blk hb (lt_of_block Hrw.out) Hrw.out
    have rr := below_blk hb (lt_of_block Hr.out) Hr.out
    have rg := below_blk hb (lt_of_block Hg.out) Hg.out
    have hbb := below_nx Hb.out hb
    clear Hrw Hr Hg Hb hb
    obtain ⟨e0, e1, e2, e3⟩ := blk_cells rr
    obtain ⟨gx0, gx1, gx2, gx3⟩ := blk_cells rg
    have f0 := fun o => free_at rr o
    have gf := fun o => free_at rg o
    have zk0 := lt_of_block rr
    have zk6 := lt_of_block rg
    have hx := cell_at rw 3 _ (Hcs.out 3 (by omega))
    have Hrw := Lib.hid (set1_blk (g := w3.heap.size) (o := 2) (u := .int .i64 b) zg rw)
    have Hr := Lib.hid (set1_blk (g := w3.heap.size) (o := 2) (u := .int .i64 b) zr rr)
    have Hg := Lib.hid (show (w5.setCell ⟨w3.heap.size, 2, none⟩ (.int .i64 b)).heap[w3.heap.size]? = some (.cells #[.int .i64 k, .int .i64 a, .int .i64 b, .int .i64 0] 25 (0, 0)) from heap_set rg 2 (.int .i64 b))
    have Hb := Lib.hid (hbb.setCell (p := ⟨w3.heap.size, 2, none⟩) (by have := zq.out.2; exact Nat.le_of_lt this) (.int .i64 b))
    clear rw rr rg hbb
    have Hi := Lib.hid (spnum (f 3) (Hsm.out 3))
    go_wp2_with fail
    refine (Hi.out _).mono ?_
    rintro e w6 ⟨⟨c, t2, rfl, gc, c0, c1⟩, hb⟩
    clear Hi hx e0 e1 e2 e3 gx0 gx1 gx2 gx3 f0 gf zk0 zk6
    have rw := below_blk hb (lt_of_block Hrw.out) Hrw.out
    have rr := below_blk hb (lt_of_block Hr.out) Hr.out
    have rg := below_blk hb (lt_of_block Hg.out) Hg.out
    have hbb := below_nx Hb.out hb
    clear Hrw Hr Hg Hb hb
    obtain ⟨e0, e1, e2, e3⟩ := blk_cells rr
    obtain ⟨gx0, gx1, gx2, gx3⟩ := blk_cells rg
    have f0 := fun o => free_at rr o
    have gf := fun o => free_at rg o
    have zk0 := lt_of_block rr
    have zk6 := lt_of_block rg
    have Hrw := Lib.hid (set1_blk (g := w3.heap.size) (o := 3) (u := .int .i64 c) zg rw)
    have Hr := Lib.hid (set1_blk (g := w3.heap.size) (o := 3) (u := .int .i64 c) zr rr)
    have Hg := Lib.hid (show (w6.setCell ⟨w3.heap.size, 3, none⟩ (.int .i64 c)).heap[w3.heap.size]? = some (.cells #[.int .i64 k, .int .i64 a, .int .i64 b, .int .i64 c] 25 (0, 0)) from heap_set rg 3 (.int .i64 c))
    have Hb := Lib.hid (hbb.setCell (p := ⟨w3.heap.size, 3, none⟩) (by have := zq.out.2; exact Nat.le_of_lt this) (.int .i64 c))
    clear rw rr rg hbb
    have Hc := Lib.hid (Hcand.out a b c (fun _ => ga) (fun _ => gb) (fun _ => gc) (fun h => by omega) (fun h => by omega))
    have Hx := Lib.hid (fun W => sfmtG (Gt.mk k a b c) W)
    have Hh := Lib.hid (fun h => gtxt_hit (g := (Gt.mk k a b c)) (s := s) h)
    have Hu := Lib.hid (show gtB (Gt.mk k a b c) 4 = true → gtxt (Gt.mk k a b c) = toB (gtT (Gt.mk k a b c)) from fun h => by unfold gtxt; rw [if_pos h])
    clear Hcand hm ga gb gc
    generalize hT : gtxt (Gt.mk k a b c) = T at *
    have HT := Lib.hid hT
    clear hT
    by_cases hse : s = ByteArray.mk #[]
    · have hb0 : s.toList = [] := by rw [hse, ByteArray.toList_eq]
      obtain ⟨rfl, rfl⟩ := Hn.out (fun g h e => gtT_ne h (e.trans hse))
      clear hse
      go_wp2_with fail
      obtain ⟨k0, k1, k2, k3⟩ := blk_cells (set4_at (u0 := .int .i64 0) (u1 := .int .i64 0) (u2 := .int .i64 0) (u3 := .int .i64 0) Hr.out)
      refine bodyPost_ret (v := .tuple #[(.agg #[.int .i64 (Gt.mk 0 0 0 0).k, .int .i64 (Gt.mk 0 0 0 0).a, .int .i64 (Gt.mk 0 0 0 0).b, .int .i64 (Gt.mk 0 0 0 0).c]), .bool false]) (by simp only [results, Tryd.results11]; simp [go_sem, k0, k1, k2, k3]) rfl ⟨rfl, ?_⟩
      have := Hb.out
      go_grown
    · have hb0 : ¬ s.toList = [] := fun h => hse (ByteArray.ext (Array.toList_inj.1 (by rw [ByteArray.toList_eq] at h; rw [h])))
      go_wp2_with fail
      refine (Hx.out _).mono ?_
      rintro e w8 ⟨rfl, hb⟩
      clear e0 e1 e2 e3 gx0 gx1 gx2 gx3 f0 gf zk0 zk6
      have rr := below_blk hb (lt_of_block Hr.out) Hr.out
      have rg := below_blk hb (lt_of_block Hg.out) Hg.out
      have hbb := below_nx Hb.out hb
      clear Hr Hg Hb hb
      obtain ⟨e0, e1, e2, e3⟩ := blk_cells rr
      obtain ⟨gx0, gx1, gx2, gx3⟩ := blk_cells rg
      have f0 := fun o => free_at rr o
      have gf := fun o => free_at rg o
      have zk0 := lt_of_block rr
      have zk6 := lt_of_block rg
      have Hr := Lib.hid rr
      have Hb := Lib.hid hbb
      clear rr rg hbb
      have hie : s.toList.isEmpty = false := by rw [List.isEmpty_eq_false_iff]; exact hb0
      by_cases hTs : T = s
      · subst hTs
        obtain ⟨hv, hw⟩ := Hh.out rfl hse
        obtain ⟨rfl, rfl⟩ := Hy.out _ hv hw
        clear hv hw hse
        have hbe := bytes_yes T
        go_wp2_with fail
        obtain ⟨k0, k1, k2, k3⟩ := blk_cells (set4_at (u0 := .int .i64 k) (u1 := .int .i64 a) (u2 := .int .i64 b) (u3 := .int .i64 c) Hr.out)
        refine bodyPost_ret (v := .tuple #[(.agg #[.int .i64 (Gt.mk k a b c).k, .int .i64 (Gt.mk k a b c).a, .int .i64 (Gt.mk k a b c).b, .int .i64 (Gt.mk k a b c).c]), .bool true]) (by simp only [results, Tryd.results11]; simp [go_sem, k0, k1, k2, k3]) rfl ⟨rfl, ?_⟩
        have := Hb.out
        go_grown
      · obtain ⟨rfl, rfl⟩ := Hn.out (fun g h e => by
          obtain rfl := Hc.out g h e
          exact hTs ((Hu.out h).trans e))
        have hbe := bytes_no hTs
        clear hTs hse
        go_wp2_with fail
        obtain ⟨k0, k1, k2, k3⟩ := blk_cells (set4_at (u0 := .int .i64 0) (u1 := .int .i64 0) (u2 := .int .i64 0) (u3 := .int .i64 0) Hr.out)
        refine bodyPost_ret (v := .tuple #[(.agg #[.int .i64 (Gt.mk 0 0 0 0).k, .int .i64 (Gt.mk 0 0 0 0).a, .int .i64 (Gt.mk 0 0 0 0).b, .int .i64 (Gt.mk 0 0 0 0).c]), .bool false]) (by simp only [results, Tryd.results11]; simp [go_sem, k0, k1, k2, k3]) rfl ⟨rfl, ?_⟩
        have := Hb.out
        go_grown
end Go.Proofs.YtbnkanlebjpkfaaDoor
