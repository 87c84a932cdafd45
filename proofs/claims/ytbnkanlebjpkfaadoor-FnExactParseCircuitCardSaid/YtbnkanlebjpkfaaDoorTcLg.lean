/- The program's ParseGate: the words split, the kind looked up, the numbers read into an array, the gate checked. -/
import Derived.Test.YtbnkanlebjpkfaaDoorTcLj
import Derived.Test.YtbnkanlebjpkfaaDoorTcLk
import Derived.Test.YtbnkanlebjpkfaaDoorTcI
import Derived.Test.YtbnkanlebjpkfaaDoorGtKd
import Derived.Test.YtbnkanlebjpkfaaDoorB14
namespace Go.Proofs.YtbnkanlebjpkfaaDoor
open Go.RowKit Go.Lib
/-- The three cells of the numbers that have been read. -/
def ncl3 (vs : List Int) : Array Value := #[.int .i64 (vs.getD 0 0), .int .i64 (vs.getD 1 0), .int .i64 (vs.getD 2 0)]
theorem ncl3_set (vs : List Int) (v : Int) (h : vs.length < 3) : (ncl3 vs).setIfInBounds vs.length (.int .i64 v) = ncl3 (vs ++ [v]) := by
  match vs, h with
  | [], _ => rfl
  | [_], _ => rfl
  | [_, _], _ => rfl
theorem ncl3_get (vs : List Int) {k : Nat} (h : k < 3) : ∃ z, (ncl3 vs)[k]? = some (.int .i64 z) := by
  rcases (show k = 0 ∨ k = 1 ∨ k = 2 by omega) with rfl | rfl | rfl <;> exact ⟨_, rfl⟩
def NB3 (w : World) (g : Nat) (vs : List Int) : Prop := w.heap[g]? = some (.cells (ncl3 vs) 57 (0, 0))
theorem NB3.set {w : World} {g j : Nat} {vs : List Int} (h : NB3 w g vs) (hj : vs.length = j) (v : Int) (hl : j < 3) : NB3 (w.setCell ⟨g, j, none⟩ (.int .i64 v)) g (vs ++ [v]) := by
  subst hj
  unfold NB3
  rw [← ncl3_set vs v hl]
  exact heap_set h _ _
theorem wdG_small {s : ByteArray} (hs : s.size ≤ 1048576) (j : Nat) : (wdG s j).size ≤ 1048576 := by
  unfold wdG
  rw [List.getD_eq_getElem?_getD]
  cases h : (pcs 32 s)[j]? with
  | none => decide
  | some p => exact Nat.le_trans (pcs_small 32 _ s (Nat.le_refl _) p (List.mem_of_getElem? h)) hs
theorem blk_cells3x {w : World} {g : Nat} {a b c : Value} {t : TypeId} (h : w.heap[g]? = some (.cells #[a, b, c] t (0, 0))) : w.cell? ⟨g, 0, none⟩ = some a ∧ w.cell? ⟨g, 1, none⟩ = some b ∧ w.cell? ⟨g, 2, none⟩ = some c :=
  ⟨cell_at h 0 _ rfl, cell_at h 1 _ rfl, cell_at h 2 _ rfl⟩
attribute [local irreducible] World.cell?
set_option maxRecDepth 100000 in
set_option maxHeartbeats 6400000 in
theorem iparG (s : ByteArray) (w : World) (hs : s.size ≤ 1048576) (hL : LW w) :
    Calls Tryd.prog 12 #[.string s] w fun e w' => e = .returned (.tuple #[(.agg #[.int .i64 (pgV s).k, .int .i64 (pgV s).a, .int .i64 (pgV s).b, .int .i64 (pgV s).c]), .bool (pgB s)]) ∧ Below w.heap.size w w' := by
  have HL := Lib.hid hL
  have HR := Lib.hid (heap_alloc_new w (.cells #[.int .i64 0, .int .i64 0, .int .i64 0, .int .i64 0] 25))
  have Hb0 := Lib.hid (show Below w.heap.size w (w.alloc (.cells #[.int .i64 0, .int .i64 0, .int .i64 0, .int .i64 0] 25)) by go_grown)
  have Hsp := Lib.hid (fun W (h : HasMax W) => show Calls Tryd.prog 37 #[.string s, .int .u8 ((32 : UInt8).toNat : Int)] W fun e w' => (∃ b, e = .returned (.slice (some ⟨b, 0, none⟩) (pcs 32 s).length (pcs 32 s).length) ∧ W.heap.size ≤ b ∧ StrRow w' b (pcs 32 s).length (wdG s)) ∧ Below W.heap.size W w' from isplit_any s 32 W hs h)
  have hP := pcs_len_le 32 s
  have Hk := Lib.hid (fun W (h : HasNames W) => ikind12 (wdG s 0) W (Nat.le_trans (wdG_small hs 0) (by decide)) h)
  have HA := Lib.hid (fun W => iar0 (gkV (wdG s 0)) W)
  have Hnum := Lib.hid (fun j W (h : LW W) => ipnum (wdG s j) W (wdG_small hs j) h.1 h.2.1)
  have Hnl := Lib.hid (@pg_no_len s)
  have Hnn := Lib.hid (fun j => @pg_no_num s j)
  have Hfin := Lib.hid (fun m => @pg_fin s m)
  have Hsu := Lib.hid (fun m => nvs_succ s m)
  have Hnl0 := Lib.hid (fun m => nvs_len s m)
  have hn0 : nvs s 0 = [] := rfl
  have h3 := ar_le (gkV (wdG s 0))
  obtain ⟨m, hm⟩ : ∃ m, (pcs 32 s).length = m + 1 := ⟨(pcs 32 s).length - 1, by have := pcs_len 32 s; omega⟩
  rw [hm] at Hsp Hnl Hnn Hfin hP
  have Hf0 := Lib.hid (Hfin.out m rfl)
  have hm2 : m ≤ 1048576 := by omega
  clear hL hs hm hP Hfin
  generalize gkV (wdG s 0) = k at *
  generalize pgV s = V at *
  generalize pgB s = PB at *
  generalize wdG s = f at *
  generalize nvs s = nv at *
  go_enter Tryd.func12, Tryd.ntmps12
  go_wp2_with fail
  refine (Hsp.out _ (HL.out.2.2.1.below Hb0.out)).mono ?_
  rintro e w1 ⟨⟨b, rfl, hbl, hrow⟩, hb1⟩
  have HR1 := Lib.hid (below_blk hb1 (lt_of_block HR.out) HR.out)
  have Hb1 := Lib.hid (below_nx Hb0.out hb1)
  have hbl : w.heap.size + 1 ≤ b := by simpa using hbl
  obtain ⟨cs, hrb, hcs⟩ := hrow
  have Hcs := Lib.hid hcs
  have Hr1 := Lib.hid hrb
  clear hb1 hrb hcs
  have hx := cell_at Hr1.out 0 _ (Hcs.out 0 (by omega))
  have hbl1 := lt_of_block Hr1.out
  go_wp2_with fail
  refine (Hk.out _ (HL.out.names.below Hb1.out)).mono ?_
  rintro e w2 ⟨rfl, hb2⟩
  clear hx
  have HR2 := Lib.hid (below_blk hb2 (lt_of_block HR1.out) HR1.out)
  have Hr2 := Lib.hid (below_blk hb2 (lt_of_block Hr1.out) Hr1.out)
  have Hb2 := Lib.hid (below_nx Hb1.out hb2)
  clear hb2 HR1 Hr1 Hb1 hbl1
  have hbl2 := lt_of_block Hr2.out
  by_cases hmk : m = ar k
  · subst hmk
    have Hf1 := Lib.hid (Hf0.out rfl)
    clear Hf0 Hnl
    by_cases h0 : ar k = 0
    · have hnq : ((1 : Int) != 1 + (ar k : Int)) = false := by rw [h0]; rfl
      have h00 : ((ar k : Nat) : Int) = 0 := by rw [h0]; rfl
      rw [h0] at Hsp Hnn Hf1
      go_wp2_with fail
      refine (HA.out _).mono ?_
      rintro e w2 ⟨rfl, rfl⟩
      go_wp2_with fail
      refine wp_loop_rounds 1 ?_
      rw [rounds_succ]
      have HN := Lib.hid (show NB3 (w2.alloc (.cells #[.int .i64 0, .int .i64 0, .int .i64 0] 57)) w2.heap.size (nv 0) by rw [hn0]; exact heap_alloc_new w2 _)
      have HRr := Lib.hid (alloc_blk (.cells #[.int .i64 0, .int .i64 0, .int .i64 0] 57) HR2.out)
      have Hb := Lib.hid (Hb2.out.alloc Hb2.out.size (.cells #[.int .i64 0, .int .i64 0, .int .i64 0] 57))
      have hfin := Hf1.out (fun i hi => absurd hi (by omega))
      obtain ⟨LL, hLL⟩ : ∃ LL, LL = nv 0 := ⟨_, rfl⟩
      rw [← hLL] at HN hfin
      clear hLL hn0 Hf1
      obtain ⟨wr, hwr⟩ : ∃ wr, wr = w2.alloc (.cells #[.int .i64 0, .int .i64 0, .int .i64 0] 57) := ⟨_, rfl⟩
      rw [← hwr] at HN HRr Hb ⊢
      clear hwr
      have HN5 := Lib.hid (show wr.heap[w2.heap.size]? = some (.cells #[.int .i64 (LL.getD 0 0), .int .i64 (LL.getD 1 0), .int .i64 (LL.getD 2 0)] 57 (0, 0)) from HN.out)
      rw [show gtOf k LL = Gt.mk k (LL.getD 0 0) (LL.getD 1 0) (LL.getD 2 0) from rfl] at hfin
      have Hfin := Lib.hid hfin
      clear hfin HN
      generalize LL.getD 0 0 = a at *
      generalize LL.getD 1 0 = b1 at *
      generalize LL.getD 2 0 = c at *
      have Hv := Lib.hid (fun W => ivalidG (Gt.mk k a b1 c) 4 W (by decide) (by decide))
      obtain ⟨n0, n1, n2⟩ := blk_cells3x HN5.out
      have fN := fun o => free_at HN5.out o
      have hnl := lt_of_block HN5.out
      have hrl := lt_of_block HRr.out
      have hbs := Hb.out.size
      have HG := Lib.hid (heap_alloc_new wr (.cells #[.int .i64 (Gt.mk k a b1 c).k, .int .i64 (Gt.mk k a b1 c).a, .int .i64 (Gt.mk k a b1 c).b, .int .i64 (Gt.mk k a b1 c).c] 25))
      have HR6 := Lib.hid (alloc_blk (.cells #[.int .i64 (Gt.mk k a b1 c).k, .int .i64 (Gt.mk k a b1 c).a, .int .i64 (Gt.mk k a b1 c).b, .int .i64 (Gt.mk k a b1 c).c] 25) HRr.out)
      have Hb6 := Lib.hid (Hb.out.alloc hbs (.cells #[.int .i64 (Gt.mk k a b1 c).k, .int .i64 (Gt.mk k a b1 c).a, .int .i64 (Gt.mk k a b1 c).b, .int .i64 (Gt.mk k a b1 c).c] 25))
      obtain ⟨y0, y1, y2, y3⟩ := blk_cells HG.out
      have fG := fun o => free_at HG.out o
      have hgl := lt_of_block HG.out
      go_wp2_with fail
      refine (Hv.out _).mono ?_
      rintro e w3 ⟨rfl, hb3⟩
      have HR7 := Lib.hid (below_blk hb3 (lt_of_block HR6.out) HR6.out)
      have HG7 := Lib.hid (below_blk hb3 (lt_of_block HG.out) HG.out)
      have Hb7 := Lib.hid (below_nx Hb6.out hb3)
      clear hb3 n0 n1 n2 fN hnl hrl hbs HN5 HRr Hb HR6 HG Hb6 y0 y1 y2 y3 fG hgl Hv
      obtain ⟨e0, e1, e2, e3⟩ := blk_cells HR7.out
      have f0 := fun o => free_at HR7.out o
      have hrl := lt_of_block HR7.out
      obtain ⟨y0, y1, y2, y3⟩ := blk_cells HG7.out
      have fG := fun o => free_at HG7.out o
      have hgl := lt_of_block HG7.out
      cases hok : gtB (Gt.mk k a b1 c) 4 with
      | false =>
        obtain ⟨rfl, rfl⟩ := Hfin.out.2 hok
        clear Hfin hok
        go_wp2_with fail
        obtain ⟨k0, k1, k2, k3⟩ := blk_cells (set4_at (u0 := .int .i64 0) (u1 := .int .i64 0) (u2 := .int .i64 0) (u3 := .int .i64 0) HR7.out)
        refine bodyPost_ret (v := .tuple #[(.agg #[.int .i64 (Gt.mk 0 0 0 0).k, .int .i64 (Gt.mk 0 0 0 0).a, .int .i64 (Gt.mk 0 0 0 0).b, .int .i64 (Gt.mk 0 0 0 0).c]), .bool false]) (by simp only [results, Tryd.results12]; simp [go_sem, k0, k1, k2, k3]) rfl ⟨rfl, ?_⟩
        have := Hb7.out
        go_grown
      | true =>
        obtain ⟨rfl, rfl⟩ := Hfin.out.1 hok
        clear Hfin hok
        go_wp2_with fail
        obtain ⟨k0, k1, k2, k3⟩ := blk_cells (set4_at (u0 := .int .i64 k) (u1 := .int .i64 a) (u2 := .int .i64 b1) (u3 := .int .i64 c) HR7.out)
        refine bodyPost_ret (v := .tuple #[(.agg #[.int .i64 (Gt.mk k a b1 c).k, .int .i64 (Gt.mk k a b1 c).a, .int .i64 (Gt.mk k a b1 c).b, .int .i64 (Gt.mk k a b1 c).c]), .bool true]) (by simp only [results, Tryd.results12]; simp [go_sem, k0, k1, k2, k3]) rfl ⟨rfl, ?_⟩
        have := Hb7.out
        go_grown
    · go_wp2_with fail
      refine (HA.out _).mono ?_
      rintro e w2 ⟨rfl, rfl⟩
      have hnq : ((ar k : Int) + 1 != 1 + (ar k : Int)) = false := by rw [bne_eq_false_iff_eq]; omega
      go_wp2_with fail
      have Hh0 := Lib.hid h0
      clear h0
      go_loopw [28] (fun i wr => ∃ j : Nat, j ≤ ar k ∧ i = .int .i64 j ∧ Hid (∀ i, i < j → nbB (f (i + 1)) = true) ∧ Hid (NB3 wr w2.heap.size (nv j)) ∧ Hid (wr.heap[w.heap.size]? = some (.cells #[.int .i64 0, .int .i64 0, .int .i64 0, .int .i64 0] 25)) ∧ Hid (wr.heap[b]? = some (.cells cs 9 (0, 0))) ∧ Hid (Below w.heap.size w wr)) (fun i _ => ar k - (Go.RowKit.intOf i).toNat)
      case atStart =>
        refine ⟨0, Nat.zero_le _, rfl, Lib.hid (fun i hi => absurd hi (by omega)), ?_, alloc_blk _ HR2.out, alloc_blk _ Hr2.out, Hb2.out.alloc Hb2.out.size _⟩
        rw [hn0]
        exact heap_alloc_new w2 _
      case round =>
        obtain ⟨j, hj, rfl, Hall, HN, HRr, Hrr, Hb⟩ := hrel
        by_cases hlt : j < ar k
        · have hx : wr.cell? ⟨b, 1 + j, none⟩ = some (.string (f (j + 1))) := by rw [Nat.add_comm 1 j]; exact cell_at Hrr.out (j + 1) _ (Hcs.out (j + 1) (by omega))
          have hbl3 := lt_of_block Hrr.out
          have Hc := Lib.hid (Hnum.out (j + 1) wr (HL.out.below Hb.out))
          have Hn1 := Lib.hid (Hnn.out j (by omega))
          have Hsj := Lib.hid (Hsu.out j)
          have Hlj := Lib.hid (Hnl0.out j)
          have Hal := Lib.hid (fun (h : nbB (f (j + 1)) = true) => show ∀ i, i < j + 1 → nbB (f (i + 1)) = true from fun i hi => by
            rcases Nat.lt_or_ge i j with h' | h'
            · exact Hall.out i h'
            · obtain rfl : i = j := by omega
              exact h)
          have hj3 : j < 3 := by omega
          have hw2 : w.heap.size < w2.heap.size := lt_of_block HR2.out
          generalize f (j + 1) = q at *
          go_wp2_with fail
          refine Hc.out.mono ?_
          rintro e w4 ⟨rfl, hb4⟩
          have HN4 : Hid (NB3 w4 w2.heap.size (nv j)) := below_blk hb4 (lt_of_block HN.out) HN.out
          have HR4 := Lib.hid (below_blk hb4 (lt_of_block HRr.out) HRr.out)
          have Hr4 := Lib.hid (below_blk hb4 (lt_of_block Hrr.out) Hrr.out)
          have Hb4 := Lib.hid (below_nx Hb.out hb4)
          clear hb4 HN HRr Hrr Hb hx hbl3 Hc Hall
          cases hf : nbB q with
          | false =>
            obtain ⟨rfl, rfl⟩ := Hn1.out hf
            clear Hn1 Hal
            obtain ⟨e0, e1, e2, e3⟩ := blk_cells HR4.out
            have f0 := fun o => free_at HR4.out o
            have hrl := lt_of_block HR4.out
            go_wp2_with fail
            obtain ⟨k0, k1, k2, k3⟩ := blk_cells (set4_at (u0 := .int .i64 0) (u1 := .int .i64 0) (u2 := .int .i64 0) (u3 := .int .i64 0) HR4.out)
            refine bodyPost_ret (v := .tuple #[(.agg #[.int .i64 (Gt.mk 0 0 0 0).k, .int .i64 (Gt.mk 0 0 0 0).a, .int .i64 (Gt.mk 0 0 0 0).b, .int .i64 (Gt.mk 0 0 0 0).c]), .bool false]) (by simp only [results, Tryd.results12]; simp [go_sem, k0, k1, k2, k3]) rfl ⟨rfl, ?_⟩
            have := Hb4.out
            go_grown
          | true =>
            have Ha2 := Lib.hid (Hal.out hf)
            clear Hal hf Hn1
            obtain ⟨z, hz⟩ := ncl3_get (nv j) hj3
            have hcc := cell_at HN4.out j _ hz
            have hzz := free_at HN4.out j
            have hnl := lt_of_block HN4.out
            have hji : (j : Int) < 3 := by omega
            have Hset := Lib.hid (HN4.out.set Hlj.out (nbV q) hj3)
            rw [← Hsj.out] at Hset
            have HR5 := Lib.hid (set1_blk (g := w2.heap.size) (o := j) (u := .int .i64 (nbV q)) (by omega) HR4.out)
            have Hr5 := Lib.hid (set1_blk (g := w2.heap.size) (o := j) (u := .int .i64 (nbV q)) (by omega) Hr4.out)
            have Hb5 := Lib.hid (Hb4.out.setCell (p := ⟨w2.heap.size, j, none⟩) (by show w.heap.size ≤ w2.heap.size; omega) (.int .i64 (nbV q)))
            go_wp2_with fail
            go_roundw
            case rel => exact ⟨j + 1, by omega, by go_num, Ha2, Hset, HR5, Hr5, Hb5⟩
            case measure => simp [Go.RowKit.intOf]; omega
        · obtain rfl : j = ar k := by omega
          have hfin := Hf1.out Hall.out
          obtain ⟨LL, hLL⟩ : ∃ LL, LL = nv (ar k) := ⟨_, rfl⟩
          rw [← hLL] at HN hfin
          clear hLL Hf1 Hall
          have HN5 := Lib.hid (show wr.heap[w2.heap.size]? = some (.cells #[.int .i64 (LL.getD 0 0), .int .i64 (LL.getD 1 0), .int .i64 (LL.getD 2 0)] 57 (0, 0)) from HN.out)
          rw [show gtOf k LL = Gt.mk k (LL.getD 0 0) (LL.getD 1 0) (LL.getD 2 0) from rfl] at hfin
          have Hfin := Lib.hid hfin
          clear hfin HN
          generalize LL.getD 0 0 = a at *
          generalize LL.getD 1 0 = b1 at *
          generalize LL.getD 2 0 = c at *
          have Hv := Lib.hid (fun W => ivalidG (Gt.mk k a b1 c) 4 W (by decide) (by decide))
          obtain ⟨n0, n1, n2⟩ := blk_cells3x HN5.out
          have fN := fun o => free_at HN5.out o
          have hnl := lt_of_block HN5.out
          have hrl := lt_of_block HRr.out
          have hbs := Hb.out.size
          have HG := Lib.hid (heap_alloc_new wr (.cells #[.int .i64 (Gt.mk k a b1 c).k, .int .i64 (Gt.mk k a b1 c).a, .int .i64 (Gt.mk k a b1 c).b, .int .i64 (Gt.mk k a b1 c).c] 25))
          have HR6 := Lib.hid (alloc_blk (.cells #[.int .i64 (Gt.mk k a b1 c).k, .int .i64 (Gt.mk k a b1 c).a, .int .i64 (Gt.mk k a b1 c).b, .int .i64 (Gt.mk k a b1 c).c] 25) HRr.out)
          have Hb6 := Lib.hid (Hb.out.alloc hbs (.cells #[.int .i64 (Gt.mk k a b1 c).k, .int .i64 (Gt.mk k a b1 c).a, .int .i64 (Gt.mk k a b1 c).b, .int .i64 (Gt.mk k a b1 c).c] 25))
          obtain ⟨y0, y1, y2, y3⟩ := blk_cells HG.out
          have fG := fun o => free_at HG.out o
          have hgl := lt_of_block HG.out
          go_wp2_with fail
          refine (Hv.out _).mono ?_
          rintro e w3 ⟨rfl, hb3⟩
          have HR7 := Lib.hid (below_blk hb3 (lt_of_block HR6.out) HR6.out)
          have HG7 := Lib.hid (below_blk hb3 (lt_of_block HG.out) HG.out)
          have Hb7 := Lib.hid (below_nx Hb6.out hb3)
          clear hb3 n0 n1 n2 fN hnl hrl hbs HN5 HRr Hb HR6 HG Hb6 y0 y1 y2 y3 fG hgl Hv
          obtain ⟨e0, e1, e2, e3⟩ := blk_cells HR7.out
          have f0 := fun o => free_at HR7.out o
          have hrl := lt_of_block HR7.out
          obtain ⟨y0, y1, y2, y3⟩ := blk_cells HG7.out
          have fG := fun o => free_at HG7.out o
          have hgl := lt_of_block HG7.out
          cases hok : gtB (Gt.mk k a b1 c) 4 with
          | false =>
            obtain ⟨rfl, rfl⟩ := Hfin.out.2 hok
            clear Hfin hok
            go_wp2_with fail
            obtain ⟨k0, k1, k2, k3⟩ := blk_cells (set4_at (u0 := .int .i64 0) (u1 := .int .i64 0) (u2 := .int .i64 0) (u3 := .int .i64 0) HR7.out)
            refine bodyPost_ret (v := .tuple #[(.agg #[.int .i64 (Gt.mk 0 0 0 0).k, .int .i64 (Gt.mk 0 0 0 0).a, .int .i64 (Gt.mk 0 0 0 0).b, .int .i64 (Gt.mk 0 0 0 0).c]), .bool false]) (by simp only [results, Tryd.results12]; simp [go_sem, k0, k1, k2, k3]) rfl ⟨rfl, ?_⟩
            have := Hb7.out
            go_grown
          | true =>
            obtain ⟨rfl, rfl⟩ := Hfin.out.1 hok
            clear Hfin hok
            go_wp2_with fail
            obtain ⟨k0, k1, k2, k3⟩ := blk_cells (set4_at (u0 := .int .i64 k) (u1 := .int .i64 a) (u2 := .int .i64 b1) (u3 := .int .i64 c) HR7.out)
            refine bodyPost_ret (v := .tuple #[(.agg #[.int .i64 (Gt.mk k a b1 c).k, .int .i64 (Gt.mk k a b1 c).a, .int .i64 (Gt.mk k a b1 c).b, .int .i64 (Gt.mk k a b1 c).c]), .bool true]) (by simp only [results, Tryd.results12]; simp [go_sem, k0, k1, k2, k3]) rfl ⟨rfl, ?_⟩
            have := Hb7.out
            go_grown
  · obtain ⟨rfl, rfl⟩ := Hnl.out (by omega)
    have hne : ((m : Int) + 1 != 1 + (ar k : Int)) = true := by rw [bne_iff_ne]; omega
    obtain ⟨e0, e1, e2, e3⟩ := blk_cells HR2.out
    have f0 := fun o => free_at HR2.out o
    have hrl := lt_of_block HR2.out
    clear hmk Hf0 Hnn Hnl
    go_wp2_with fail
    refine (HA.out _).mono ?_
    rintro e w2 ⟨rfl, rfl⟩
    go_wp2_with fail
    obtain ⟨k0, k1, k2, k3⟩ := blk_cells (set4_at (u0 := .int .i64 0) (u1 := .int .i64 0) (u2 := .int .i64 0) (u3 := .int .i64 0) HR2.out)
    refine bodyPost_ret (v := .tuple #[(.agg #[.int .i64 (Gt.mk 0 0 0 0).k, .int .i64 (Gt.mk 0 0 0 0).a, .int .i64 (Gt.mk 0 0 0 0).b, .int .i64 (Gt.mk 0 0 0 0).c]), .bool false]) (by simp only [results, Tryd.results12]; simp [go_sem, k0, k1, k2, k3]) rfl ⟨rfl, ?_⟩
    have := Hb2.out
    go_grown
end Go.Proofs.YtbnkanlebjpkfaaDoor
