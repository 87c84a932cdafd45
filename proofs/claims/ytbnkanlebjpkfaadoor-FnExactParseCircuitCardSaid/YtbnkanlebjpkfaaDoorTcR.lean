/- The model's ParseCircuit. -/
import Derived.Test.YtbnkanlebjpkfaaDoorTcQ
import Derived.Test.YtbnkanlebjpkfaaDoorTcH
namespace Go.Proofs.YtbnkanlebjpkfaaDoor
open Go.RowKit Go.Lib
/-- The last word of the first line; the gates that the first k lines behind it name. -/
def hdw (s : ByteArray) : ByteArray := (pcs 32 ((pcs 10 s).getD 0 ByteArray.empty)).getD ((pcs 32 ((pcs 10 s).getD 0 ByteArray.empty)).length - 1) ByteArray.empty
noncomputable def glV (s : ByteArray) (k : Nat) : List Gt := (((pcs 10 s).drop 1).take k).map pgV
theorem glV_len {s : ByteArray} {k : Nat} (h : k ≤ (pcs 10 s).length - 1) : (glV s k).length = k := by
  unfold glV; rw [List.length_map, List.length_take, List.length_drop]; omega
theorem glV_step {s : ByteArray} {k : Nat} (h : k + 1 < (pcs 10 s).length) : glV s (k + 1) = glV s k ++ [pgV ((pcs 10 s).getD (k + 1) ByteArray.empty)] := by
  unfold glV
  rw [List.take_add_one, List.map_append, List.getElem?_drop, List.getD_eq_getElem?_getD, Nat.add_comm 1 k, List.getElem?_eq_getElem h]
  rfl
theorem map_pgV : ∀ {L : List Gt}, (∀ g ∈ L, gtB g 4 = true) → (L.map fun g => toB (gtT g)).map pgV = L
  | [], _ => rfl
  | x :: L, h => by
    rw [List.map_cons, List.map_cons, (pg_yes (h x (List.mem_cons_self ..)) rfl).2, map_pgV (fun g hg => h g (List.mem_cons_of_mem _ hg))]
theorem pc_cand {s : ByteArray} {a n : Int} {K : Nat} {L : List Gt} (ga : Got (hdw s) 0 999999 a) (hK : K ≤ (pcs 10 s).length - 1) (hk : K = (pcs 10 s).length - 1 ∨ 61 ≤ K) (h : ciB n L = true) (e : toB (cT n L) = s) : n = a ∧ L = glV s K := by
  obtain ⟨h1, h2, h3⟩ := ciB_parts h
  have hp := cT_pcs h1
  rw [e] at hp
  have hl : (pcs 10 s).length = L.length + 1 := by rw [hp]; simp
  have hw : hdw s = toB (itoa n) := by
    unfold hdw
    rw [hp]
    show (pcs 32 (toB (hdT n))).getD ((pcs 32 (toB (hdT n))).length - 1) ByteArray.empty = _
    rw [hdT_pcs]; rfl
  refine ⟨(ga n (by omega) (by omega) (by rw [hw]; rfl)).symm, ?_⟩
  obtain rfl : K = L.length := by omega
  unfold glV
  rw [hp]
  show L = ((L.map fun g => toB (gtT g)).take L.length).map pgV
  rw [List.take_of_length_le (by simp), map_pgV (fun g hg => gtB_mono (h1 g hg))]
theorem cT_ne (n : Int) (L : List Gt) : toB (cT n L) ≠ ByteArray.mk #[] := fun e => by
  have h1 : cT n L = [] := toB_inj (e.trans (show ByteArray.mk #[] = toB [] from rfl))
  unfold cT hdT word7 at h1
  cases h1
theorem ctxt_hit {n : Int} {L : List Gt} {s : ByteArray} (h : cTxt n L = s) (hs : s ≠ ByteArray.mk #[]) : ciB n L = true ∧ toB (cT n L) = s := by
  unfold cTxt at h
  split at h
  · exact ⟨by assumption, h⟩
  · exact absurd h.symm hs
theorem hdw_small {s : ByteArray} (hs : s.size ≤ 1048576) : (hdw s).size ≤ 1048576 := by
  have h1 : ((pcs 10 s).getD 0 ByteArray.empty).size ≤ 1048576 := by
    rw [List.getD_eq_getElem?_getD]
    cases h : (pcs 10 s)[0]? with
    | none => decide
    | some p => exact Nat.le_trans (pcs_small 10 _ s (Nat.le_refl _) p (List.mem_of_getElem? h)) hs
  unfold hdw
  rw [List.getD_eq_getElem?_getD]
  cases h : (pcs 32 ((pcs 10 s).getD 0 ByteArray.empty))[(pcs 32 ((pcs 10 s).getD 0 ByteArray.empty)).length - 1]? with
  | none => decide
  | some p => exact Nat.le_trans (pcs_small 32 _ _ (Nat.le_refl _) p (List.mem_of_getElem? h)) h1
theorem line_small {s : ByteArray} (hs : s.size ≤ 1048576) (j : Nat) : ((pcs 10 s).getD j ByteArray.empty).size ≤ 1048576 := by
  rw [List.getD_eq_getElem?_getD]
  cases h : (pcs 10 s)[j]? with
  | none => decide
  | some p => exact Nat.le_trans (pcs_small 10 _ s (Nat.le_refl _) p (List.mem_of_getElem? h)) hs
theorem set2R {w : World} {b : Nat} {z0 z1 u0 u1 : Value} {t : TypeId} (h : w.heap[b]? = some (.cells #[z0, z1] t (0, 0))) : ((w.setCell ⟨b, 0, none⟩ u0).setCell ⟨b, 1, none⟩ u1).heap[b]? = some (.cells #[u0, u1] t (0, 0)) := by
  have h1 := heap_set h 0 u0
  exact heap_set h1 1 u1
attribute [local irreducible] World.cell?
set_option maxRecDepth 100000 in
set_option maxHeartbeats 12800000 in
theorem sparseC (s : ByteArray) (w : World) (hs : s.size ≤ 1048576) :
    Calls Tryd.prog 19 #[.string s] w fun e w' => (∃ v, e = .returned (.tuple #[.agg #[.int .i64 (pcV s).1, v], .bool (pcB s)]) ∧ gtE.Sl w' w.heap.size v (pcV s).2) ∧ Below w.heap.size w w' := by
  obtain ⟨i0, hi, hz0, hz1, hz2⟩ := info_parts infoGt
  have HR := Lib.hid (heap_alloc_new w (.cells #[.int .i64 0, .slice none 0 0] 39))
  have Hb0 := Lib.hid (show Below w.heap.size w (w.alloc (.cells #[.int .i64 0, .slice none 0 0] 39)) by go_grown)
  have H1 := fun W => ssplit s 10 W hs
  have H2 := fun W => ssplit ((pcs 10 s).getD 0 ByteArray.empty) 32 W (line_small hs 0)
  have H3 := Lib.hid (fun W => spnum (hdw s) (hdw_small hs) W)
  have H4 := fun j W => sparseG ((pcs 10 s).getD j ByteArray.empty) W (line_small hs j)
  have hP0 : 0 < (pcs 10 s).length := by rw [pcs_len]; omega
  have hPl := pcs_len_le 10 s
  have hQl := pcs_len_le 32 ((pcs 10 s).getD 0 ByteArray.empty)
  have hql := line_small hs 0
  obtain ⟨q, hq⟩ : ∃ q, (pcs 32 ((pcs 10 s).getD 0 ByteArray.empty)).length = q + 1 := ⟨(pcs 32 ((pcs 10 s).getD 0 ByteArray.empty)).length - 1, by have := pcs_len 32 ((pcs 10 s).getD 0 ByteArray.empty); omega⟩
  have hlast : (pcs 32 ((pcs 10 s).getD 0 ByteArray.empty)).getD q ByteArray.empty = hdw s := by unfold hdw; rw [hq, Nat.add_sub_cancel]
  rw [hq] at H2 hQl
  have Hcand := Lib.hid (fun (a n : Int) (K : Nat) (L : List Gt) ga hK hk h e => pc_cand (s := s) (a := a) (n := n) (K := K) (L := L) ga hK hk h e)
  have Hy := Lib.hid (fun (n : Int) (L : List Gt) (h : ciB n L = true) (e : toB (cT n L) = s) => pc_yes h e)
  have Hn := Lib.hid (fun (h : ∀ n L, ciB n L = true → toB (cT n L) ≠ s) => pc_no h)
  have Hl := Lib.hid (fun (k : Nat) (h : k ≤ (pcs 10 s).length - 1) => glV_len h)
  have Hst := fun (k : Nat) (h : k + 1 < (pcs 10 s).length) => glV_step h
  clear hq
  obtain ⟨wd, hwd⟩ : ∃ wd : Nat → ByteArray, ∀ j, (pcs 32 ((pcs 10 s).getD 0 ByteArray.empty)).getD j ByteArray.empty = wd j := ⟨_, fun _ => rfl⟩
  simp only [hwd] at H2 hlast
  clear hwd
  obtain ⟨ln, hln⟩ : ∃ ln : Nat → ByteArray, ∀ j, (pcs 10 s).getD j ByteArray.empty = ln j := ⟨_, fun _ => rfl⟩
  simp only [hln] at H1 H2 H4 Hst hql hQl
  clear hln
  have H1 := Lib.hid H1
  have H2 := Lib.hid H2
  have H4 := Lib.hid H4
  have Hst := Lib.hid Hst
  have hPm : (pcs 10 s).length ≤ 1048577 := by omega
  have hQm : q ≤ 1048577 := by omega
  clear hPl hQl hql hs
  generalize pcs 10 s = P at *
  generalize pcV s = V at *
  generalize pcB s = PB at *
  go_enter Tryd.func19, Tryd.ntmps19
  go_wp2_with fail
  refine (H1.out _).mono ?_
  rintro e w1 ⟨⟨g1, cap1, rfl, hg1, cs1, hr1, hc1⟩, hb1⟩
  have HR1 := Lib.hid (below_blk hb1 (lt_of_block HR.out) HR.out)
  have Hb1 := Lib.hid (below_nx Hb0.out hb1)
  have Hr1 := Lib.hid hr1
  have Hc1 := Lib.hid hc1
  have hx := cell_at hr1 0 _ (hc1 0 hP0)
  have hgl := lt_of_block hr1
  simp at hg1
  clear hb1 hr1 hc1
  go_wp2_with fail
  refine (H2.out _).mono ?_
  rintro e w2 ⟨⟨g2, cap2, rfl, hg2, cs2, hr2, hc2⟩, hb2⟩
  clear hx
  have hg1l : g1 < w2.heap.size := Nat.lt_of_lt_of_le hgl hb2.size
  have HR2 := Lib.hid (alloc_blk (.cells #[.int .i64 0, .slice none 0 0] 39) (below_blk hb2 (lt_of_block HR1.out) HR1.out))
  have Hr2 := Lib.hid (alloc_blk (.cells #[.int .i64 0, .slice none 0 0] 39) (below_blk hb2 (lt_of_block Hr1.out) Hr1.out))
  have HC2 := Lib.hid (heap_alloc_new w2 (.cells #[.int .i64 0, .slice none 0 0] 39))
  have hbn := below_nx Hb1.out hb2
  have hsz : w.heap.size < w2.heap.size := lt_of_block (below_blk hb2 (lt_of_block HR1.out) HR1.out)
  have Hb2 := Lib.hid (hbn.alloc hbn.size (.cells #[.int .i64 0, .slice none 0 0] 39))
  have hx := cell_at (alloc_blk (.cells #[.int .i64 0, .slice none 0 0] 39) hr2) q _ (hc2 q (by omega))
  simp only [hlast] at hx
  have hg2l := lt_of_block (alloc_blk (.cells #[.int .i64 0, .slice none 0 0] 39) hr2)
  clear hb2 hbn hr2 hc2 HR HR1 Hr1 Hb0 Hb1 hlast hgl
  go_wp2_with fail
  refine (H3.out _).mono ?_
  rintro e w3 ⟨⟨a, t0, rfl, ga, a0, a1⟩, hb3⟩
  clear hx hg2l
  have rr := below_blk hb3 (lt_of_block HR2.out) HR2.out
  have r1 := below_blk hb3 (lt_of_block Hr2.out) Hr2.out
  have rc := below_blk hb3 (lt_of_block HC2.out) HC2.out
  have hbn := below_nx Hb2.out hb3
  have Ga := Lib.hid ga
  clear HR2 Hr2 HC2 hb3 ga
  obtain ⟨gx0, gx1⟩ := blk_cells2 rc
  have gf := fun o => free_at rc o
  have hcl := lt_of_block rc
  have z1 : g1 ≠ w2.heap.size := by omega
  have zr : w.heap.size ≠ w2.heap.size := by omega
  have HR3 := Lib.hid (set1_blk (g := w2.heap.size) (o := 0) (u := .int .i64 a) zr rr)
  have Hr3 := Lib.hid (set1_blk (g := w2.heap.size) (o := 0) (u := .int .i64 a) z1 r1)
  have HC3 := Lib.hid (show (w3.setCell ⟨w2.heap.size, 0, none⟩ (.int .i64 a)).heap[w2.heap.size]? = some (.cells #[.int .i64 a, .slice none 0 0] 39 (0, 0)) from heap_set rc 0 (.int .i64 a))
  have Hb3 := Lib.hid (hbn.setCell (p := ⟨w2.heap.size, 0, none⟩) (Nat.le_of_lt hsz) (.int .i64 a))
  clear rr r1 rc hbn Hb2
  go_wp2_with fail
  go_loopw [7] (fun i wr => ∃ (j k : Nat) (op : Option Addr) (oc : Nat), Hid (j = k + 1) ∧ 1 ≤ j ∧ j ≤ P.length ∧ j ≤ 62 ∧ i = .int .i64 (j : Int) ∧ Hid (wr.ownsRow (w2.heap.size + 1) 25 4 (.slice op k oc) k (gtE.flat (glV s k))) ∧ Hid (wr.heap[w2.heap.size]? = some (.cells #[.int .i64 a, .slice op k oc] 39 (0, 0))) ∧ Hid (wr.heap[w.heap.size]? = some (.cells #[.int .i64 0, .slice none 0 0] 39 (0, 0))) ∧ Hid (wr.heap[g1]? = some (.cells cs1 9 (0, 0))) ∧ Hid (Below w.heap.size w wr)) (fun i _ => 63 - (intOf i).toNat)
  case atStart => exact ⟨1, 0, none, 0, Lib.hid rfl, by omega, hP0, by omega, rfl, World.ownsRow_nil _ _ _ _, HC3, HR3, Hr3, Hb3⟩
  case round =>
    obtain ⟨j, k, op, oc, Hjk, hj1, hjP, hk, rfl, Hown, HC, HRr, Hr, Hb⟩ := hrel
    by_cases hlt : j < P.length ∧ j ≤ 61
    · obtain ⟨hlt, hlt2⟩ := hlt
      have hx := cell_at Hr.out j _ (Hc1.out j hlt)
      have hgl := lt_of_block Hr.out
      have HP := Lib.hid (H4.out j)
      have hst := Lib.hid (show glV s (k + 1) = glV s k ++ [pgV (ln j)] by have := Hst.out k (by have := Hjk.out; omega); rwa [show ln (k + 1) = ln j from congrArg ln Hjk.out.symm] at this)
      have hd : decide ((j : Int) ≤ 61) = true := decide_eq_true (by omega)
      generalize pgV (ln j) = x at *
      clear gx0 gx1 gf hcl
      go_wp2_with fail
      refine (HP.out _).mono ?_
      rintro e w5 ⟨rfl, hb5⟩
      clear hx hgl
      have HC5 := Lib.hid (alloc_blk (.cells #[.int .i64 x.k, .int .i64 x.a, .int .i64 x.b, .int .i64 x.c] 25) (below_blk hb5 (lt_of_block HC.out) HC.out))
      have HR5 := Lib.hid (alloc_blk (.cells #[.int .i64 x.k, .int .i64 x.a, .int .i64 x.b, .int .i64 x.c] 25) (below_blk hb5 (lt_of_block HRr.out) HRr.out))
      have Hr5 := Lib.hid (alloc_blk (.cells #[.int .i64 x.k, .int .i64 x.a, .int .i64 x.b, .int .i64 x.c] 25) (below_blk hb5 (lt_of_block Hr.out) Hr.out))
      have Hx5 := Lib.hid (heap_alloc_new w5 (.cells #[.int .i64 x.k, .int .i64 x.a, .int .i64 x.b, .int .i64 x.c] 25))
      have Hown5 := Lib.hid ((row_below Hown.out hb5).alloc (.cells #[.int .i64 x.k, .int .i64 x.a, .int .i64 x.b, .int .i64 x.c] 25))
      have hs5 : w2.heap.size < w5.heap.size := lt_of_block (below_blk hb5 (lt_of_block HC.out) HC.out)
      have hbn := below_nx Hb.out hb5
      have Hb5 := Lib.hid (hbn.alloc hbn.size (.cells #[.int .i64 x.k, .int .i64 x.a, .int .i64 x.b, .int .i64 x.c] 25))
      clear hb5 hbn HC HRr Hr Hown Hb
      obtain ⟨o0, o1⟩ := blk_cells2 HC5.out
      obtain ⟨y0, y1, y2, y3⟩ := blk_cells Hx5.out
      have fO := fun o => free_at HC5.out o
      have hOl := lt_of_block HC5.out
      have hOx := lt_of_block Hx5.out
      have hkm : k ≤ 61 := by have := Hjk.out; omega
      have hnew : ∀ j u, (gtE.fl x)[j]? = some u → ((w5.alloc (.cells #[.int .i64 x.k, .int .i64 x.a, .int .i64 x.b, .int .i64 x.c] 25)).alloc (.cells #[.int .i64 x.k, .int .i64 x.a, .int .i64 x.b, .int .i64 x.c] 25)).cell? ((⟨w5.heap.size + 1, 0, none⟩ : Addr).add j) = some u := by
        have h := Enc.new_row (E := gtE) (w5.alloc (.cells #[.int .i64 x.k, .int .i64 x.a, .int .i64 x.b, .int .i64 x.c] 25)) x _ rfl
        rw [show (w5.alloc (.cells #[.int .i64 x.k, .int .i64 x.a, .int .i64 x.b, .int .i64 x.c] 25)).heap.size = w5.heap.size + 1 by simp] at h
        exact h
      have hs7 : ((w5.alloc (.cells #[.int .i64 x.k, .int .i64 x.a, .int .i64 x.b, .int .i64 x.c] 25)).alloc (.cells #[.int .i64 x.k, .int .i64 x.a, .int .i64 x.b, .int .i64 x.c] 25)).heap.size = w5.heap.size + 1 + 1 := by simp
      go_wp2_with (first
        | (at_builtin; refine wpList_append_lies _ rfl _ _ 37 rfl (w2.heap.size + 1) 25 i0 (.agg #[.int .i64 0, .int .i64 0, .int .i64 0, .int .i64 0]) 4 32 Tryd.underlying37 hi hz0 hz1 hz2 rfl (by decide) _ _ _ rfl (Hown5.out.alloc _) ⟨w5.heap.size + 1, 0, none⟩ 1 1 (gtE.fl x) rfl rfl hnew (gtE.one _) (by decide) ?d3 ?d4 ?d5 (w5.heap.size + 1 + 1) (by simp) ?_))
      case d3 => unfold maxLen; omega
      case d4 => omega
      case d5 => first | omega | (simp; omega)
      intro gg cap w6 hown6 hgrow hat hlt6
      have hbase := fun (p : Nat) hp => (Hown5.out.lt p hp).1
      have hgg : w2.heap.size + 1 ≤ gg := by
        rcases hat with h | h
        · exact hbase _ h
        · omega
      have HC6 := Lib.hid (grown_blk hgrow (alloc_blk (.cells #[.int .i64 x.k, .int .i64 x.a, .int .i64 x.b, .int .i64 x.c] 25) HC5.out) (fun e => by have := hbase _ e.symm; omega))
      have HR6 := Lib.hid (grown_blk hgrow (alloc_blk (.cells #[.int .i64 x.k, .int .i64 x.a, .int .i64 x.b, .int .i64 x.c] 25) HR5.out) (fun e => by have := hbase _ e.symm; omega))
      have Hr6 := Lib.hid (grown_blk hgrow (alloc_blk (.cells #[.int .i64 x.k, .int .i64 x.a, .int .i64 x.b, .int .i64 x.c] 25) Hr5.out) (fun e => by have := hbase _ e.symm; omega))
      have hb6 : Below w.heap.size w w6 := (Hb5.out.alloc Hb5.out.size (.cells #[.int .i64 x.k, .int .i64 x.a, .int .i64 x.b, .int .i64 x.c] 25)).grown hgrow (by rw [hs7]; omega) (fun p hp => by have := hbase p hp; omega)
      rw [gtE.flat_snoc, ← hst.out] at hown6
      have Hown6 := Lib.hid hown6
      have Hb6 := Lib.hid hb6
      clear hown6 hb6 hgrow hat hbase HC5 HR5 Hr5 Hx5 Hown5 Hb5 o0 o1 y0 y1 y2 y3 fO hOl hOx hnew hs7 hst HP
      obtain ⟨o0, o1⟩ := blk_cells2 HC6.out
      have fO := fun o => free_at HC6.out o
      have hOl := lt_of_block HC6.out
      go_wp2_with fail
      go_roundw
      case rel => exact ⟨j + 1, k + 1, some ⟨gg, 0, none⟩, cap, Lib.hid (congrArg (· + 1) Hjk.out), by omega, by omega, by omega, by go_num, row_set1 Hown6.out (fun p hp => by have : gg = p := Option.some.inj hp; omega), heap_set HC6.out 1 (.slice (some ⟨gg, 0, none⟩) (k + 1) cap), set1_blk zr HR6.out, set1_blk z1 Hr6.out, Hb6.out.setCell (p := ⟨w2.heap.size, 1, none⟩) (Nat.le_of_lt hsz) _⟩
      case measure => simp [intOf]; omega
    · by_cases hj : j < P.length
      · have hd : decide ((j : Int) ≤ 61) = false := decide_eq_false (by omega)
        have hk1 : k ≤ P.length - 1 := by have := Hjk.out; omega
        have hk2 : k = P.length - 1 ∨ 61 ≤ k := by have := Hjk.out; omega
        have hk3 : k ≤ 61 := by have := Hjk.out; omega
        have hlen := Hl.out k hk1
        have Hc := Lib.hid (fun n L h e => Hcand.out a n k L Ga.out hk1 hk2 h e)
        have Hsl := Lib.hid (Enc.Sl.of_own (E := gtE) (l := glV s k) (by rw [hlen]; exact Hown.out))
        have Hx := Lib.hid (fun W h => sfmtC (w2.heap.size + 1) a (.slice op k oc) (glV s k) W h (by omega))
        have Hh := Lib.hid (fun h => ctxt_hit (n := a) (L := glV s k) (s := s) h)
        have Hu := Lib.hid (show ciB a (glV s k) = true → cTxt a (glV s k) = toB (cT a (glV s k)) from fun h => by unfold cTxt; rw [if_pos h])
        clear hlen hk1 hk2 Hcand Hl Hst H1 H2 H3 H4 Hown gx0 gx1 gf hcl
        generalize glV s k = L at *
        generalize hT : cTxt a L = T at *
        have HT := Lib.hid hT
        clear hT
        obtain ⟨o0, o1⟩ := blk_cells2 HC.out
        obtain ⟨r0, r1⟩ := blk_cells2 HRr.out
        have fO := fun o => free_at HC.out o
        have fR := fun o => free_at HRr.out o
        have hOl := lt_of_block HC.out
        have hRl := lt_of_block HRr.out
        by_cases hse : s = ByteArray.mk #[]
        · have hb0 : s.toList = [] := by rw [hse, ByteArray.toList_eq]
          obtain ⟨rfl, rfl⟩ := Hn.out (fun n L h e => cT_ne n L (e.trans hse))
          clear hse
          go_wp2_with fail
          obtain ⟨k0, k1⟩ := blk_cells2 (set2R (u0 := .int .i64 0) (u1 := .slice none 0 0) HRr.out)
          refine bodyPost_ret (v := .tuple #[.agg #[.int .i64 0, .slice none 0 0], .bool false]) (by simp only [results, Tryd.results19]; simp [go_sem, k0, k1]) rfl ⟨⟨.slice none 0 0, rfl, Enc.Sl.nil⟩, ?_⟩
          have := Hb.out
          go_grown
        · have hb0 : ¬ s.toList = [] := fun h => hse (ByteArray.ext (Array.toList_inj.1 (by rw [ByteArray.toList_eq] at h; rw [h])))
          go_wp2_with fail
          refine (Hx.out _ Hsl.out).mono ?_
          rintro e w8 ⟨rfl, hb⟩
          clear o0 o1 r0 r1 fO fR hOl hRl
          have hc8 := below_blk hb (lt_of_block HC.out) HC.out
          have hr8 := below_blk hb (lt_of_block HRr.out) HRr.out
          have hs8 := Hsl.out.below hb
          have hbb := below_nx Hb.out hb
          clear HC HRr Hsl Hb hb Hr
          have HC := Lib.hid hc8
          have HRr := Lib.hid hr8
          have Hsl := Lib.hid hs8
          have Hb := Lib.hid hbb
          clear hc8 hr8 hs8 hbb
          obtain ⟨o0, o1⟩ := blk_cells2 HC.out
          obtain ⟨r0, r1⟩ := blk_cells2 HRr.out
          have fO := fun o => free_at HC.out o
          have fR := fun o => free_at HRr.out o
          have hOl := lt_of_block HC.out
          have hRl := lt_of_block HRr.out
          have hie : s.toList.isEmpty = false := by rw [List.isEmpty_eq_false_iff]; exact hb0
          by_cases hTs : T = s
          · subst hTs
            obtain ⟨hv, hw⟩ := Hh.out rfl hse
            obtain ⟨rfl, rfl⟩ := Hy.out _ _ hv hw
            clear hv hw hse
            have hbe := bytes_yes T
            go_wp2_with fail
            obtain ⟨k0, k1⟩ := blk_cells2 (set2R (u0 := .int .i64 a) (u1 := .slice op k oc) HRr.out)
            refine bodyPost_ret (v := .tuple #[.agg #[.int .i64 a, .slice op k oc], .bool true]) (by simp only [results, Tryd.results19]; simp [go_sem, k0, k1]) rfl ⟨⟨.slice op k oc, rfl, (sl_set1 (sl_set1 Hsl.out (by omega)) (by omega)).mono (by omega)⟩, ?_⟩
            have := Hb.out
            go_grown
          · obtain ⟨rfl, rfl⟩ := Hn.out (fun n M h e => by
              obtain ⟨rfl, rfl⟩ := Hc.out n M h e
              exact hTs ((Hu.out h).trans e))
            have hbe := bytes_no hTs
            clear hTs hse
            go_wp2_with fail
            obtain ⟨k0, k1⟩ := blk_cells2 (set2R (u0 := .int .i64 0) (u1 := .slice none 0 0) HRr.out)
            refine bodyPost_ret (v := .tuple #[.agg #[.int .i64 0, .slice none 0 0], .bool false]) (by simp only [results, Tryd.results19]; simp [go_sem, k0, k1]) rfl ⟨⟨.slice none 0 0, rfl, Enc.Sl.nil⟩, ?_⟩
            have := Hb.out
            go_grown
      · have hk1 : k ≤ P.length - 1 := by have := Hjk.out; omega
        have hk2 : k = P.length - 1 ∨ 61 ≤ k := by have := Hjk.out; omega
        have hk3 : k ≤ 61 := by have := Hjk.out; omega
        have hlen := Hl.out k hk1
        have Hc := Lib.hid (fun n L h e => Hcand.out a n k L Ga.out hk1 hk2 h e)
        have Hsl := Lib.hid (Enc.Sl.of_own (E := gtE) (l := glV s k) (by rw [hlen]; exact Hown.out))
        have Hx := Lib.hid (fun W h => sfmtC (w2.heap.size + 1) a (.slice op k oc) (glV s k) W h (by omega))
        have Hh := Lib.hid (fun h => ctxt_hit (n := a) (L := glV s k) (s := s) h)
        have Hu := Lib.hid (show ciB a (glV s k) = true → cTxt a (glV s k) = toB (cT a (glV s k)) from fun h => by unfold cTxt; rw [if_pos h])
        clear hlen hk1 hk2 Hcand Hl Hst H1 H2 H3 H4 Hown gx0 gx1 gf hcl
        generalize glV s k = L at *
        generalize hT : cTxt a L = T at *
        have HT := Lib.hid hT
        clear hT
        obtain ⟨o0, o1⟩ := blk_cells2 HC.out
        obtain ⟨r0, r1⟩ := blk_cells2 HRr.out
        have fO := fun o => free_at HC.out o
        have fR := fun o => free_at HRr.out o
        have hOl := lt_of_block HC.out
        have hRl := lt_of_block HRr.out
        by_cases hse : s = ByteArray.mk #[]
        · have hb0 : s.toList = [] := by rw [hse, ByteArray.toList_eq]
          obtain ⟨rfl, rfl⟩ := Hn.out (fun n L h e => cT_ne n L (e.trans hse))
          clear hse
          go_wp2_with fail
          obtain ⟨k0, k1⟩ := blk_cells2 (set2R (u0 := .int .i64 0) (u1 := .slice none 0 0) HRr.out)
          refine bodyPost_ret (v := .tuple #[.agg #[.int .i64 0, .slice none 0 0], .bool false]) (by simp only [results, Tryd.results19]; simp [go_sem, k0, k1]) rfl ⟨⟨.slice none 0 0, rfl, Enc.Sl.nil⟩, ?_⟩
          have := Hb.out
          go_grown
        · have hb0 : ¬ s.toList = [] := fun h => hse (ByteArray.ext (Array.toList_inj.1 (by rw [ByteArray.toList_eq] at h; rw [h])))
          go_wp2_with fail
          refine (Hx.out _ Hsl.out).mono ?_
          rintro e w8 ⟨rfl, hb⟩
          clear o0 o1 r0 r1 fO fR hOl hRl
          have hc8 := below_blk hb (lt_of_block HC.out) HC.out
          have hr8 := below_blk hb (lt_of_block HRr.out) HRr.out
          have hs8 := Hsl.out.below hb
          have hbb := below_nx Hb.out hb
          clear HC HRr Hsl Hb hb Hr
          have HC := Lib.hid hc8
          have HRr := Lib.hid hr8
          have Hsl := Lib.hid hs8
          have Hb := Lib.hid hbb
          clear hc8 hr8 hs8 hbb
          obtain ⟨o0, o1⟩ := blk_cells2 HC.out
          obtain ⟨r0, r1⟩ := blk_cells2 HRr.out
          have fO := fun o => free_at HC.out o
          have fR := fun o => free_at HRr.out o
          have hOl := lt_of_block HC.out
          have hRl := lt_of_block HRr.out
          have hie : s.toList.isEmpty = false := by rw [List.isEmpty_eq_false_iff]; exact hb0
          by_cases hTs : T = s
          · subst hTs
            obtain ⟨hv, hw⟩ := Hh.out rfl hse
            obtain ⟨rfl, rfl⟩ := Hy.out _ _ hv hw
            clear hv hw hse
            have hbe := bytes_yes T
            go_wp2_with fail
            obtain ⟨k0, k1⟩ := blk_cells2 (set2R (u0 := .int .i64 a) (u1 := .slice op k oc) HRr.out)
            refine bodyPost_ret (v := .tuple #[.agg #[.int .i64 a, .slice op k oc], .bool true]) (by simp only [results, Tryd.results19]; simp [go_sem, k0, k1]) rfl ⟨⟨.slice op k oc, rfl, (sl_set1 (sl_set1 Hsl.out (by omega)) (by omega)).mono (by omega)⟩, ?_⟩
            have := Hb.out
            go_grown
          · obtain ⟨rfl, rfl⟩ := Hn.out (fun n M h e => by
              obtain ⟨rfl, rfl⟩ := Hc.out n M h e
              exact hTs ((Hu.out h).trans e))
            have hbe := bytes_no hTs
            clear hTs hse
            go_wp2_with fail
            obtain ⟨k0, k1⟩ := blk_cells2 (set2R (u0 := .int .i64 0) (u1 := .slice none 0 0) HRr.out)
            refine bodyPost_ret (v := .tuple #[.agg #[.int .i64 0, .slice none 0 0], .bool false]) (by simp only [results, Tryd.results19]; simp [go_sem, k0, k1]) rfl ⟨⟨.slice none 0 0, rfl, Enc.Sl.nil⟩, ?_⟩
            have := Hb.out
            go_grown
end Go.Proofs.YtbnkanlebjpkfaaDoor
