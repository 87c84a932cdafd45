/- Plain: the last layer of each qubit, as numbers and as a map. -/
import Derived.Test.YtckfklpgnneodaaGreatBaseB08
import Derived.Lib.SlKeysI
import Derived.Maps.OwnSet
namespace Go.Proofs.YtckfklpgnneodaaGreat
open Go.RowKit Go.Lib Go.Maps
/-- A gate on one qubit alone. -/
def qg (q : Int) : Gt := ⟨1, q, 0, 0⟩
theorem mt_qg {g : Gt} {q : Int} : mtG g (qg q) = true ↔ q ∈ gqs g := by
  rw [mtG_iff]
  have h : gqs (qg q) = [q] := rfl
  rw [h]
  constructor
  · rintro ⟨p, h1, h2⟩
    obtain rfl : p = q := by simpa using h2
    exact h1
  · exact fun h => ⟨q, h, by simp⟩
/-- The layer behind the last that acts on q. -/
def lq (M : List (List Gt)) (q : Int) : Nat := layAt M (qg q)
theorem anyG_qg {l : List Gt} {h : Gt} {q : Int} (hq : q ∈ gqs h) (ha : anyG l (qg q) = true) : anyG l h = true := by
  unfold anyG at *
  obtain ⟨g, hg, hm⟩ := List.any_eq_true.1 ha
  exact List.any_eq_true.2 ⟨g, hg, mtG_iff.2 ⟨q, mt_qg.1 hm, hq⟩⟩
theorem anyG_ex {l : List Gt} {h : Gt} (ha : anyG l h = true) : ∃ q, q ∈ gqs h ∧ anyG l (qg q) = true := by
  unfold anyG at *
  obtain ⟨g, hg, hm⟩ := List.any_eq_true.1 ha
  obtain ⟨q, h1, h2⟩ := mtG_iff.1 hm
  exact ⟨q, h2, List.any_eq_true.2 ⟨g, hg, mt_qg.2 h1⟩⟩
theorem atL_ub {M : List (List Gt)} {h : Gt} {q : Int} (hq : q ∈ gqs h) : ∀ n, atL M (qg q) n ≤ atL M h n
  | 0 => Nat.le_refl 0
  | n + 1 => by
    have ih := atL_ub (M := M) hq n
    rw [atL, atL]
    by_cases ha : anyG (M.getD n []) (qg q) = true
    · rw [if_pos ha, if_pos (anyG_qg hq ha)]
      exact Nat.le_refl _
    · rw [if_neg ha]
      split
      · have := atL_le M (qg q) n; omega
      · exact ih
theorem atL_hit (M : List (List Gt)) (h : Gt) : ∀ n, atL M h n = 0 ∨ ∃ q, q ∈ gqs h ∧ atL M h n = atL M (qg q) n
  | 0 => .inl rfl
  | n + 1 => by
    by_cases ha : anyG (M.getD n []) h = true
    · obtain ⟨q, h1, h2⟩ := anyG_ex ha
      exact .inr ⟨q, h1, by rw [atL, atL, if_pos ha, if_pos h2]⟩
    · rcases atL_hit M h n with h0 | ⟨q, h1, h2⟩
      · exact .inl (by rw [atL, if_neg ha, h0])
      · refine .inr ⟨q, h1, ?_⟩
        have hn : ¬ anyG (M.getD n []) (qg q) = true := fun hc => ha (anyG_qg h1 hc)
        rw [atL, atL, if_neg ha, if_neg hn, h2]
theorem lq_ub {M : List (List Gt)} {h : Gt} {q : Int} (hq : q ∈ gqs h) : lq M q ≤ layAt M h := atL_ub hq _
theorem lq_lay (M : List (List Gt)) (g : Gt) (q : Int) : lq (layG M g) q = if q ∈ gqs g then layAt M g + 1 else lq M q := by
  have h := layAt_lay M g (qg q)
  unfold lq
  rw [h]
  by_cases hq : q ∈ gqs g
  · have hu : layAt M (qg q) ≤ layAt M g := lq_ub hq
    rw [if_pos (mt_qg.2 hq), if_pos hq]
    omega
  · rw [if_neg (fun hc => hq (mt_qg.1 hc)), if_neg hq]
theorem lq_le (M : List (List Gt)) (q : Int) : lq M q ≤ M.length := layAt_le M _
/-- The greatest so far. -/
def NX (S Q : List Int) (f : Int → Nat) (N : Nat) : Prop := (∀ q ∈ S, q ∈ Q → f q ≤ N) ∧ (N = 0 ∨ ∃ q, q ∈ Q ∧ N = f q)
theorem NX.nil {Q : List Int} {f : Int → Nat} : NX [] Q f 0 := ⟨fun q h => absurd h (by simp), .inl rfl⟩
theorem NX.yes {S Q : List Int} {f : Int → Nat} {N : Nat} {q : Int} (h : NX S Q f N) (hq : q ∈ Q) : NX (S ++ [q]) Q f (max N (f q)) := by
  obtain ⟨h1, h2⟩ := h
  refine ⟨fun p hp hpQ => ?_, ?_⟩
  · rcases List.mem_append.1 hp with h | h
    · have := h1 p h hpQ; omega
    · obtain rfl : p = q := by simpa using h
      omega
  · by_cases hle : f q ≤ N
    · rw [Nat.max_eq_left hle]; exact h2
    · rw [Nat.max_eq_right (by omega)]; exact .inr ⟨q, hq, rfl⟩
theorem NX.no {S Q : List Int} {f : Int → Nat} {N : Nat} {q : Int} (h : NX S Q f N) (hq : q ∉ Q) : NX (S ++ [q]) Q f N := by
  refine ⟨fun p hp hpQ => ?_, h.2⟩
  rcases List.mem_append.1 hp with h' | h'
  · exact h.1 p h' hpQ
  · obtain rfl : p = q := by simpa using h'
    exact absurd hpQ hq
theorem NX.fin {S : List Int} {M : List (List Gt)} {g : Gt} {N : Nat} (h : NX S (gqs g) (lq M) N) (hS : ∀ q, lq M q ≠ 0 → q ∈ S) : N = layAt M g := by
  obtain ⟨h1, h2⟩ := h
  have hge : layAt M g ≤ N := by
    rcases atL_hit M g M.length with h0 | ⟨q, hq, he⟩
    · have h0 : layAt M g = 0 := h0
      omega
    · have he : layAt M g = lq M q := he
      by_cases hz : lq M q = 0
      · omega
      · have := h1 q (hS q hz) hq; omega
  have hle : N ≤ layAt M g := by
    rcases h2 with rfl | ⟨q, hq, rfl⟩
    · exact Nat.zero_le _
    · exact lq_ub hq
  omega
/-- Released: what has been taken out so far. -/
def rlS (Q S : List Int) (f : Int → Nat) (p : Int) : Nat := if p ∈ S ∧ p ∈ Q then 0 else f p
theorem rlS_nil (Q : List Int) (f : Int → Nat) : rlS Q [] f = f := by funext p; simp [rlS]
theorem rlS_at {Q S : List Int} {f : Int → Nat} {q : Int} (h : q ∉ S) : rlS Q S f q = f q := if_neg fun hc => h hc.1
theorem rlS_yes {Q S : List Int} {f : Int → Nat} {q : Int} (hq : q ∈ Q) : (fun p => if p = q then 0 else rlS Q S f p) = rlS Q (S ++ [q]) f := by
  funext p
  unfold rlS
  by_cases hp : p = q
  · subst hp
    rw [if_pos rfl, if_pos ⟨by simp, hq⟩]
  · rw [if_neg hp]
    simp [hp]
theorem rlS_no {Q S : List Int} {f : Int → Nat} {q : Int} (hq : q ∉ Q) : rlS Q S f = rlS Q (S ++ [q]) f := by
  funext p
  unfold rlS
  by_cases hp : p = q
  · subst hp
    rw [if_neg (fun h => hq h.2), if_neg (fun h => hq h.2)]
  · simp [hp]
def rlA (Q : List Int) (f : Int → Nat) (p : Int) : Nat := if p ∈ Q then 0 else f p
theorem rlS_fin {Q S : List Int} {f : Int → Nat} (h : ∀ q, f q ≠ 0 → q ∈ S) : rlS Q S f = rlA Q f := by
  funext p
  unfold rlS rlA
  by_cases hQ : p ∈ Q
  · rw [if_pos hQ]
    by_cases hS : p ∈ S
    · rw [if_pos ⟨hS, hQ⟩]
    · rw [if_neg (fun h => hS h.1)]
      exact Decidable.byContradiction fun hc => hS (h p hc)
  · rw [if_neg hQ, if_neg (fun h => hQ h.2)]
/-- Stored: what has been put in so far. -/
def stS (T : List Int) (N : Nat) (f : Int → Nat) (p : Int) : Nat := if p ∈ T then N + 1 else f p
theorem stS_nil (N : Nat) (f : Int → Nat) : stS [] N f = f := by funext p; simp [stS]
theorem stS_one {T : List Int} {N : Nat} {f : Int → Nat} {q : Int} : (fun p => if p = q then N + 1 else stS T N f p) = stS (T ++ [q]) N f := by
  funext p
  unfold stS
  by_cases hp : p = q
  · subst hp
    rw [if_pos rfl, if_pos (by simp)]
  · rw [if_neg hp]
    simp [hp]
theorem stS_fin (M : List (List Gt)) (g : Gt) : stS (gqs g) (layAt M g) (rlA (gqs g) (lq M)) = lq (layG M g) := by
  funext p
  rw [lq_lay]
  unfold stS rlA
  split
  · rfl
  · rfl
def mdv (t : Nat) (z : DataW Unit) : DataW Unit := if t = 0 then z else .lit (.int .i64 ((t : Int) - 1))
/-- The map holds f: an entry where f is not zero, one less than f. -/
def MD (D : DataW Unit) (f : Int → Nat) : Prop := IsMap D ∧ ∀ q (z : DataW Unit), D.atKey (.int .i64 q) z = mdv (f q) z
theorem MD.empty : MD (.map []) (fun _ => 0) := ⟨isMap_empty, fun _ _ => rfl⟩
theorem MD.put {D : DataW Unit} {f : Int → Nat} (h : MD D f) (q : Int) (t : Nat) : MD (D.put (.int .i64 q) (.lit (.int .i64 (t : Int)))) (fun p => if p = q then t + 1 else f p) := by
  refine ⟨h.1.put _ _, fun p z => ?_⟩
  show _ = mdv (if p = q then t + 1 else f p) z
  by_cases hp : p = q
  · subst hp
    rw [atKey_put_same h.1 (show WideAt.IsKeyLit (.int .i64 p) from trivial), if_pos rfl]
    unfold mdv
    rw [if_neg (by omega), show (((t + 1 : Nat) : Int) - 1) = (t : Int) by omega]
  · rw [atKey_put_other (by intro e; injection e with _ e; exact hp e), h.2 p z, if_neg hp]
theorem MD.del {D : DataW Unit} {f : Int → Nat} (h : MD D f) (q : Int) : MD (D.del (.int .i64 q)) (fun p => if p = q then 0 else f p) := by
  refine ⟨h.1.del _, fun p z => ?_⟩
  show _ = mdv (if p = q then 0 else f p) z
  by_cases hp : p = q
  · subst hp
    rw [atKey_del_same, if_pos rfl]
    rfl
  · rw [atKey_del_other (by intro e; injection e with _ e; exact hp e), h.2 p z, if_neg hp]
theorem MD.has {D : DataW Unit} {f : Int → Nat} (h : MD D f) (q : Int) : has D (.int .i64 q) = true ↔ f q ≠ 0 := by
  by_cases hz : f q = 0
  · rw [has_false_of_atKey fun z => by rw [h.2 q z, hz]; rfl]
    simp [hz]
  · rw [has_true_of_atKey (y := .lit (.int .i64 ((f q : Int) - 1))) fun z => by rw [h.2 q z]; exact if_neg hz]
    simp [hz]
theorem MD.at {D : DataW Unit} {f : Int → Nat} {q : Int} {c : Int} (h : MD D f) (hq : f q ≠ 0) (hc : D.atKey (.int .i64 q) (.lit (.int .i64 0)) = .lit (.int .i64 c)) : c = (f q : Int) - 1 := by
  rw [h.2] at hc
  unfold mdv at hc
  rw [if_neg hq] at hc
  injection hc with hc
  injection hc with _ hc
  exact hc.symm
theorem keys_mem {H : Type} {P : Program} {k : TypeId} {R : Value → Option (DataW H × List MemPlace)} {w : World} {b n : Nat} {D : DataW H} (hown : w.ownsMap P k R b n D) (K : Keyed P k) (hk : P.underlying k = some (.int .i64)) :
    (intKeys D).Nodup ∧ ∀ x, x ∈ intKeys D ↔ has D (.int .i64 x) = true := by
  obtain ⟨es, hD, hpw, -⟩ := hown.entries K
  obtain ⟨es', hD', hko⟩ := hown.keysOf
  obtain rfl : es = es' := by rw [hD] at hD'; simpa using hD'
  subst hD
  have hko2 : ∀ p ∈ es, ∃ x, p.1 = .int .i64 x := fun p hp => by obtain ⟨v, hv⟩ := hko p hp; obtain ⟨x, _, hx, _⟩ := Maps.keyOf_i64 hk hv; exact ⟨x, hx⟩
  constructor
  · show (es.map fun p => Go.intOf p.1).Nodup
    refine List.pairwise_map.2 (hpw.imp_of_mem fun {p q} hp' hq' hne e => hne ?_)
    obtain ⟨a, ha⟩ := hko2 p hp'
    obtain ⟨b, hb⟩ := hko2 q hq'
    rw [ha, hb] at e ⊢
    exact congrArg _ e
  · intro x
    rw [has_eq, List.any_eq_true]
    show x ∈ es.map (fun p => Go.intOf p.1) ↔ _
    rw [List.mem_map]
    constructor
    · rintro ⟨p, hp', rfl⟩
      obtain ⟨a, ha⟩ := hko2 p hp'
      exact ⟨p, hp', by rw [ha]; simp [Lit.sameKey, Go.intOf]⟩
    · rintro ⟨p, hp', hs⟩
      obtain ⟨a, ha⟩ := hko2 p hp'
      rw [ha] at hs
      exact ⟨p, hp', by rw [ha]; simpa [Lit.sameKey, Go.intOf] using hs⟩
end Go.Proofs.YtckfklpgnneodaaGreat
