/- The laws' own 'apart': whether two lists of gates do the same on n qubits, up to a phase. -/
import Derived.Test.YtadimihfbpkilaaBaseB19
import Derived.Test.YtadimihfbpkilaaMtG
import Derived.Deep.AppendLies
namespace Go.Proofs.Ytadimihfbpkilaa
open Go.RowKit
/-- What apart answers. -/
def aptB (a b : List Gt) (n : Nat) : Bool := cirB a n && cirB b n
def aptV (a b : List Gt) (n : Nat) : Int := if aptB a b n then gpV (cirC a n) (cirC b n) else 0
def aptO (a b : List Gt) (n : Nat) : Bool := aptB a b n && gpB (cirC a n) (cirC b n)
theorem aptB_no {a b : List Gt} {n j : Nat} (hj : j < 2 ^ n) (h : agsB a (basisL n j) = false ∨ agsB b (basisL n j) = false) : aptV a b n = 0 ∧ aptO a b n = false := by
  have h0 : aptB a b n = false := by
    unfold aptB cirB
    rw [Bool.and_eq_false_iff]
    rcases h with h | h
    · left; rw [List.all_eq_false]; exact ⟨j, List.mem_range.2 hj, by rw [h]; decide⟩
    · right; rw [List.all_eq_false]; exact ⟨j, List.mem_range.2 hj, by rw [h]; decide⟩
  exact ⟨by unfold aptV; rw [h0]; rfl, by unfold aptO; rw [h0]; rfl⟩
theorem aptB_yes {a b : List Gt} {n : Nat} (h : ∀ k : Nat, k < 2 ^ n → agsB a (basisL n k) = true ∧ agsB b (basisL n k) = true) : aptV a b n = gpV (cirC a n) (cirC b n) ∧ aptO a b n = gpB (cirC a n) (cirC b n) := by
  have h0 : aptB a b n = true := by
    unfold aptB cirB
    rw [Bool.and_eq_true, List.all_eq_true, List.all_eq_true]
    exact ⟨fun k hk => (h k (List.mem_range.1 hk)).1, fun k hk => (h k (List.mem_range.1 hk)).2⟩
  exact ⟨by unfold aptV; rw [h0]; rfl, by unfold aptO; rw [h0]; rfl⟩
theorem own_low {w : World} {base b' : Nat} {e : TypeId} {size : Nat} {v : Value} {n : Nat} {xs : List Value} (h : w.ownsRow base e size v n xs) (hb : b' ≤ base) : w.ownsRow b' e size v n xs := by
  obtain ⟨h1, h2⟩ := h
  refine ⟨h1, ?_⟩
  rcases h2 with h2 | ⟨g, cap, cur, a, b, c⟩
  · exact .inl h2
  · exact .inr ⟨g, cap, cur, a, by omega, c⟩
theorem ampsLe : ∀ {M : List (List Dw)} {k : Nat}, (∀ r ∈ M, r.length ≤ k) → amps M ≤ M.length * k
  | [], k, _ => by simp [amps]
  | r :: M, k, h => by
    have h1 := h r List.mem_cons_self
    have h2 := ampsLe (M := M) fun s hs => h s (List.mem_cons_of_mem _ hs)
    have h3 : amps (r :: M) = r.length + amps M := by simp [amps]
    rw [h3, List.length_cons, Nat.succ_mul]
    omega
attribute [local irreducible] World.cell?
set_option maxRecDepth 100000 in
set_option maxHeartbeats 6400000 in
theorem lapart (B C n : Nat) (va vb : Value) (a b : List Gt) (w : World) (ha : gtE.Sl w B va a) (hb : gtE.Sl w C vb b) (h1 : 1 ≤ n) (h4 : n ≤ 4) (hma : a.length ≤ 1048576) (hmb : b.length ≤ 1048576) :
    Calls Try.prog 15 #[va, vb, .int .i64 n] w fun e w' => e = .returned (.tuple #[.int .i64 (aptV a b n), .bool (aptO a b n)]) ∧ Below w.heap.size w w' := by
  obtain ⟨i0, hi, hz0, hz1, hz2⟩ := info_parts infoDs
  obtain ⟨N, hN⟩ : ∃ N, N = 2 ^ n := ⟨_, rfl⟩
  have hN16 : 2 ≤ N ∧ N ≤ 16 := by rw [hN]; rcases (show n = 1 ∨ n = 2 ∨ n = 3 ∨ n = 4 by omega) with rfl | rfl | rfl | rfl <;> decide
  have hw : wrap64 (2 ^ n) = (N : Int) := by rw [hN]; rcases (show n = 1 ∨ n = 2 ∨ n = 3 ∨ n = 4 by omega) with rfl | rfl | rfl | rfl <;> decide +kernel
  have Hbs := Lib.hid (fun (j : Nat) W => sbasis n j W)
  have Hbl := Lib.hid (fun (j : Nat) (h : j < N) => (basis_len (n := n) (j := j) h1 h4 (by rw [← hN]; exact h)).trans hN.symm)
  have Hapa := Lib.hid (fun (j : Nat) (hj : j < N) D (u : Value) W (h : DSl W D u (basisL n j)) (h' : gtE.Sl W B va a) => sapGs D B va u a (basisL n j) W h' h (by rw [Hbl.out j hj]; omega) hma)
  have Hapb := Lib.hid (fun (j : Nat) (hj : j < N) D (u : Value) W (h : DSl W D u (basisL n j)) (h' : gtE.Sl W C vb b) => sapGs D C vb u b (basisL n j) W h' h (by rw [Hbl.out j hj]; omega) hmb)
  have Hlen := Lib.hid (fun (L : List Gt) (j : Nat) (hj : j < N) (h : agsB L (basisL n j) = true) => (agsV_len h).trans (Hbl.out j hj))
  have Hst := Lib.hid (fun (L : List Gt) (j : Nat) (hj : j < N) => cirC_step (L := L) (n := n) (j := j) (by rw [← hN]; exact hj))
  have hcla := (cirC_len a n).trans hN.symm
  have hclb := (cirC_len b n).trans hN.symm
  have Hno := Lib.hid (fun (j : Nat) (hj : j < N) h => aptB_no (a := a) (b := b) (n := n) (j := j) (by rw [← hN]; exact hj) h)
  have Hyes := Lib.hid (fun (h : ∀ k : Nat, k < N → agsB a (basisL n k) = true ∧ agsB b (basisL n k) = true) => aptB_yes (a := a) (b := b) (n := n) (by rw [← hN]; exact h))
  have Hmem := Lib.hid (fun (L : List Gt) => (show ∀ r ∈ cirC L n, ∃ j, j < N ∧ r = agsV L (basisL n j) from fun r hr => by
    obtain ⟨k, hk, rfl⟩ := List.mem_map.1 hr
    exact ⟨k, by rw [hN]; exact List.mem_range.1 hk, rfl⟩))
  have Hma := Lib.hid (Hmem.out a)
  have Hmb := Lib.hid (Hmem.out b)
  have Hsta := Lib.hid (Hst.out a)
  have Hstb := Lib.hid (Hst.out b)
  have HA := Lib.hid ha
  have HB := Lib.hid hb
  clear Hmem Hst ha hb
  generalize cirC a n = X at *
  generalize cirC b n = Y at *
  generalize aptV a b n = V at *
  generalize aptO a b n = O at *
  clear hN
  go_enter Try.func15, Try.ntmps15
  go_wp2_with fail
  go_loopg [8, 9, 10] N (fun m x y i wr => ∃ (j : Nat) (xs ys : List Value), m = N - j ∧ j ≤ N ∧ i = .int .i64 j ∧ Hid (wr.ownsRow w.heap.size 60 1 x j xs) ∧ Hid (wr.ownsRow w.heap.size 60 1 y j ys) ∧ Hid (RwS wr w.heap.size wr.heap.size xs (X.take j)) ∧ Hid (RwS wr w.heap.size wr.heap.size ys (Y.take j)) ∧ Hid (∀ k, x.ownBlock = some k → y.ownBlock = some k → False) ∧ Hid (∀ k : Nat, k < j → agsB a (basisL n k) = true ∧ agsB b (basisL n k) = true) ∧ Hid (Below w.heap.size w wr))
  case atStart => exact ⟨0, [], [], rfl, Nat.zero_le _, rfl, Lib.hid ((ownM_new rfl).alloc _), Lib.hid (own_low (ownM_new (by simp)) (Nat.le_succ _)), Lib.hid RwS.nil, Lib.hid RwS.nil, Lib.hid (fun k h h' => by simp [Value.ownBlock] at h h'; omega), Lib.hid (fun k hk => absurd hk (Nat.not_lt_zero _)), Lib.hid (by go_grown)⟩
  case round =>
    obtain ⟨j, xs, ys, rfl, hj, rfl, Hx, Hy, Hrx, Hry, Hne, Hall, Hb⟩ := hrel
    have hs := Hb.out.size
    by_cases hlt : j < N
    · have hjl : (j : Int) < N := by omega
      have Hc := Lib.hid (fun W => Hbs.out j W)
      have Ha := Lib.hid (fun D u W => Hapa.out j hlt D u W)
      have Hd := Lib.hid (fun D u W => Hapb.out j hlt D u W)
      have Hta := Lib.hid (Hsta.out j hlt)
      have Htb := Lib.hid (Hstb.out j hlt)
      have Hat := Lib.hid (fun (h : agsB a (basisL n j) = true) (h' : agsB b (basisL n j) = true) (k : Nat) (hk : k < j + 1) => by
        rcases Nat.lt_succ_iff_lt_or_eq.1 hk with h2 | rfl
        · exact Hall.out k h2
        · exact (⟨h, h'⟩ : agsB a (basisL n k) = true ∧ agsB b (basisL n k) = true))
      have Hnj := Lib.hid (Hno.out j hlt)
      generalize agsB a (basisL n j) = t at *
      generalize agsV a (basisL n j) = r at *
      generalize agsB b (basisL n j) = t' at *
      generalize agsV b (basisL n j) = r' at *
      go_wp2_with fail
      refine (Hc.out _).mono ?_
      rintro e w3 ⟨c, rfl, hdc, hb3⟩
      have Hb3 := Lib.hid (below_nx Hb.out hb3)
      have Hc3 := Lib.hid (Ha.out _ c w3 hdc (HA.out.below Hb3.out))
      have Hx3 := Lib.hid (row_below Hx.out hb3)
      have Hy3 := Lib.hid (row_below Hy.out hb3)
      have Hrx3 := Lib.hid ((Hrx.out.block fun k _ _ hk => hb3.block k hk).mono (Nat.le_refl _) hb3.size)
      have Hry3 := Lib.hid ((Hry.out.block fun k _ _ hk => hb3.block k hk).mono (Nat.le_refl _) hb3.size)
      have hs3 := Hb3.out.size
      clear hb3 hdc Hx Hy Hrx Hry Hb
      go_wp2_with fail
      refine (Hc3.out).mono ?_
      rintro e w4 ⟨⟨q, rfl, hdq⟩, hb4⟩
      have Hx4 := Lib.hid (row_below Hx3.out hb4)
      have Hy4 := Lib.hid (row_below Hy3.out hb4)
      have Hrx4 := Lib.hid (Hrx3.out.upto.snoc hdq.upto hs3 hb4.size fun k _ _ hk => hb4.block k hk)
      have Hry4 := Lib.hid ((Hry3.out.block fun k _ _ hk => hb4.block k hk).mono (Nat.le_refl _) hb4.size)
      have Hb4 := Lib.hid (below_nx Hb3.out hb4)
      have hs4 := Hb4.out.size
      obtain ⟨p, pc, rfl, -, -⟩ := hdq
      clear hb4 Hx3 Hy3 Hrx3 Hry3 Hb3 Hc3
      go_wp2_with fail
      refine (Hc.out _).mono ?_
      rintro e w5 ⟨c, rfl, hdc, hb5⟩
      have Hb5 := Lib.hid (below_nx Hb4.out hb5)
      have Hc5 := Lib.hid (Hd.out _ c w5 hdc (HB.out.below Hb5.out))
      have Hx5 := Lib.hid (row_below Hx4.out hb5)
      have Hy5 := Lib.hid (row_below Hy4.out hb5)
      have Hrx5 := Lib.hid ((Hrx4.out.block fun k _ _ hk => hb5.block k hk).mono (Nat.le_refl _) hb5.size)
      have Hry5 := Lib.hid ((Hry4.out.block fun k _ _ hk => hb5.block k hk).mono (Nat.le_refl _) hb5.size)
      have hs5 := Hb5.out.size
      clear hb5 hdc Hx4 Hy4 Hrx4 Hry4 Hb4
      go_wp2_with fail
      refine (Hc5.out).mono ?_
      rintro e w6 ⟨⟨q', rfl, hdq⟩, hb6⟩
      have Hx6 := Lib.hid (row_below Hx5.out hb6)
      have Hy6 := Lib.hid (row_below Hy5.out hb6)
      have Hrx6 := Lib.hid ((Hrx5.out.block fun k _ _ hk => hb6.block k hk).mono (Nat.le_refl _) hb6.size)
      have Hry6 := Lib.hid (Hry5.out.upto.snoc hdq.upto hs5 hb6.size fun k _ _ hk => hb6.block k hk)
      have Hb6 := Lib.hid (below_nx Hb5.out hb6)
      have hs6 := Hb6.out.size
      obtain ⟨p', pc', rfl, -, -⟩ := hdq
      clear hb6 Hx5 Hy5 Hrx5 Hry5 Hb5 Hc5 Hc Ha Hd
      cases t with
      | false =>
        obtain ⟨rfl, rfl⟩ := Hnj.out (.inl rfl)
        go_wp2_with fail
        go_returns
        exact ⟨rfl, Hb6.out⟩
      | true =>
        cases t' with
        | false =>
          obtain ⟨rfl, rfl⟩ := Hnj.out (.inr rfl)
          go_wp2_with fail
          go_returns
          exact ⟨rfl, Hb6.out⟩
        | true =>
          rw [← Hta.out] at Hrx6
          rw [← Htb.out] at Hry6
          go_wp2_with (first
            | (at_builtin; refine wpList_append_lies _ rfl _ _ 58 rfl w.heap.size 60 i0 (.slice none 0 0) 1 24 Try.underlying58 hi hz0 hz1 hz2 rfl (by decide) _ _ _ rfl (Hx6.out.alloc _) ⟨w6.heap.size, 0, none⟩ 1 1 [.slice p r.length pc] rfl rfl (slice_new _ _ _) (by intro u hu; simp at hu; subst hu; rfl) (by decide) ?d3 ?d4 ?d5 (w6.heap.size + 1) (by simp) ?_))
          case d3 => unfold maxLen; omega
          case d4 => omega
          case d5 => first | omega | (simp; omega)
          intro gx cx w7 hx7 hgrow hat hlt7
          have HB7 := Lib.hid ((Hb6.out.alloc hs6 (.cells #[.slice p r.length pc] 60)).grown hgrow (by simp; omega) (fun q hq => by have := Hx6.out.lt q hq; omega))
          have Hrx7 := Lib.hid (((Hrx6.out.block fun k _ _ hk => Below.heap_alloc _ _ _ hk).grown (Hx6.out.alloc _) hgrow).upto)
          have Hry7 := Lib.hid (((Hry6.out.block fun k _ _ hk => Below.heap_alloc _ _ _ hk).grown (Hx6.out.alloc _) hgrow).upto)
          have Hy7 := Lib.hid ((Hy6.out.alloc (.cells #[.slice p r.length pc] 60)).kept hgrow (by
            cases hyb : Value.ownBlock _ with
            | none => exact .inl rfl
            | some k => exact .inr fun e => Hne.out k e.symm hyb))
          have Hne7 := Lib.hid (show ∀ k, (Value.slice (some ⟨gx, 0, none⟩) (j + 1) cx).ownBlock = some k → Value.ownBlock _ = some k → False from fun k h h' => by
            have h : gx = k := Option.some.inj h
            subst h
            rcases hat with h2 | h2
            · exact Hne.out _ h2 h'
            · have := (Hy6.out.lt _ h').2; omega)
          have Hx7 := Lib.hid hx7
          have hs7 := HB7.out.size
          have hyl := fun k (h : Value.ownBlock _ = some k) => Hy7.out.lt k h
          clear hx7 hgrow hat Hx6 Hy6 Hrx6 Hry6 Hb6
          have Hyl := Lib.hid hyl
          clear hyl
          go_wp2_with (first
            | (at_builtin; refine wpList_append_lies _ rfl _ _ 58 rfl w.heap.size 60 i0 (.slice none 0 0) 1 24 Try.underlying58 hi hz0 hz1 hz2 rfl (by decide) _ _ _ rfl (Hy7.out.alloc _) ⟨w7.heap.size, 0, none⟩ 1 1 [.slice p' r'.length pc'] rfl rfl (slice_new _ _ _) (by intro u hu; simp at hu; subst hu; rfl) (by decide) ?d3 ?d4 ?d5 (w7.heap.size + 1) (by simp) ?_))
          case d3 => unfold maxLen; omega
          case d4 => omega
          case d5 => first | omega | (simp; omega)
          intro gy cy w8 hy8 hgrow hat hlt8
          have HB8 := Lib.hid ((HB7.out.alloc hs7 (.cells #[.slice p' r'.length pc'] 60)).grown hgrow (by simp; omega) (fun q hq => by have := Hy7.out.lt q hq; omega))
          have Hrx8 := Lib.hid (((Hrx7.out.block fun k _ _ hk => Below.heap_alloc _ _ _ hk).grown (Hy7.out.alloc _) hgrow).upto)
          have Hry8 := Lib.hid (((Hry7.out.block fun k _ _ hk => Below.heap_alloc _ _ _ hk).grown (Hy7.out.alloc _) hgrow).upto)
          have Hx8 := Lib.hid ((Hx7.out.alloc (.cells #[.slice p' r'.length pc'] 60)).kept hgrow (.inr fun e => Hne7.out _ rfl e.symm))
          have Hne8 := Lib.hid (show ∀ k, (Value.slice (some ⟨gx, 0, none⟩) (j + 1) cx).ownBlock = some k → (Value.slice (some ⟨gy, 0, none⟩) (j + 1) cy).ownBlock = some k → False from fun k h h' => by
            have h : gx = k := Option.some.inj h
            have h' : gy = k := Option.some.inj h'
            subst h
            subst h'
            rcases hat with h2 | h2
            · exact Hne7.out _ rfl h2
            · omega)
          have Hy8 := Lib.hid hy8
          clear hy8 hgrow hat Hx7 Hy7 Hrx7 Hry7 HB7 Hyl Hne7 Hne
          go_wp2_with fail
          go_roundg (N - (j + 1))
          case measure => omega
          case rel => exact ⟨j + 1, _, _, rfl, by omega, by go_num, Hx8, Hy8, Hrx8, Hry8, Hne8, Lib.hid (Hat.out trivial trivial), HB8⟩
    · obtain rfl : j = N := by omega
      obtain ⟨rfl, rfl⟩ := Hyes.out Hall.out
      have hox := Hx.out
      have hoy := Hy.out
      have hrx := Hrx.out
      have hry := Hry.out
      rw [List.take_of_length_le (by omega)] at hrx hry
      rw [← hcla] at hox
      rw [← hclb] at hoy
      have hdx := DSM.of_own hox hrx (Nat.le_refl _)
      have hdy := DSM.of_own hoy hry (Nat.le_refl _)
      have hax : amps X ≤ 256 := Nat.le_trans (ampsLe (k := 16) fun r hr => by
        obtain ⟨k, hk, rfl⟩ := Hma.out r hr
        rw [Hlen.out a k hk (Hall.out k hk).1]; omega) (by omega)
      have hay : amps Y ≤ 256 := Nat.le_trans (ampsLe (k := 16) fun r hr => by
        obtain ⟨k, hk, rfl⟩ := Hmb.out r hr
        rw [Hlen.out b k hk (Hall.out k hk).2]; omega) (by omega)
      have Hgp := Lib.hid (sgp _ _ _ _ _ _ X Y wr hdx hdy (by omega) (by omega) (by omega) (by omega))
      clear hox hoy hrx hry hdx hdy hax hay
      go_wp2_with fail
      refine (Hgp.out).mono ?_
      rintro e w6 ⟨rfl, hb6⟩
      have Hb6 := Lib.hid (below_nx Hb.out hb6)
      clear hb6
      go_wp2_with fail
      go_returns
      exact ⟨rfl, Hb6.out⟩
end Go.Proofs.Ytadimihfbpkilaa
