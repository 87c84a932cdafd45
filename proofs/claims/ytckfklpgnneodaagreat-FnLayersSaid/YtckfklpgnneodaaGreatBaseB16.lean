/- BaseB16: several of our texts in one: GoR LyA ApKa ApKb. -/
import Derived.Test.YtckfklpgnneodaaGreatBaseB14
import Derived.Test.YtckfklpgnneodaaGreatBaseB08
import Derived.Test.YtckfklpgnneodaaGreatBaseB05
import Derived.Test.YtckfklpgnneodaaGreatBaseB06
import Derived.Test.YtckfklpgnneodaaGreatSnH
import Derived.Test.YtckfklpgnneodaaGreatBaseB15
import Derived.Test.YtckfklpgnneodaaGreatPhF
namespace Go.Proofs.YtckfklpgnneodaaGreat
open Go.RowKit
/-- A row of gates in block g, with room for k. -/
def OwG (w : World) (B g k : Nat) (r : List Gt) : Prop := B ≤ g ∧ r.length ≤ k ∧ k ≤ maxLen ∧ ∃ cur : Array Value, w.heap[g]? = some (.cells cur 44 (0, 0)) ∧ cur.size = k * 4 ∧ cur.toList.take (r.length * 4) = gtE.flat r
theorem OwG.own {w : World} {B g k : Nat} {r : List Gt} (h : OwG w B g k r) : w.ownsRow B 44 4 (.slice (some ⟨g, 0, none⟩) r.length k) r.length (gtE.flat r) := by
  obtain ⟨h1, h2, h3, cur, h4, h5, h6⟩ := h
  exact ⟨gtE.flat_len r, .inr ⟨g, k, cur, rfl, h1, h4, h2, h3, h5, h6⟩⟩
theorem OwG.of_own {w : World} {B : Nat} {v : Value} {r : List Gt} (h : w.ownsRow B 44 4 v r.length (gtE.flat r)) (h0 : 0 < r.length) : ∃ g k, v = .slice (some ⟨g, 0, none⟩) r.length k ∧ OwG w B g k r := by
  rcases h.2 with ⟨-, e⟩ | ⟨g, k, cur, e, h1, h4, h2, h3, h5, h6⟩
  · omega
  · exact ⟨g, k, e, h1, h2, h3, cur, h4, h5, h6⟩
theorem OwG.block {w w' : World} {B g k : Nat} {r : List Gt} (h : OwG w B g k r) (hb : w'.heap[g]? = w.heap[g]?) : OwG w' B g k r := by
  obtain ⟨h1, h2, h3, cur, h4, h5⟩ := h
  exact ⟨h1, h2, h3, cur, hb.trans h4, h5⟩
theorem OwG.lt {w : World} {B g k : Nat} {r : List Gt} (h : OwG w B g k r) : g < w.heap.size := by obtain ⟨-, -, -, cur, h4, -⟩ := h; exact lt_of_block h4
theorem OwG.row {w : World} {B g k : Nat} {r : List Gt} (h : OwG w B g k r) : gtE.Row w g r := by obtain ⟨-, -, -, cur, h4, -, h6⟩ := h; exact ⟨cur, h4, h6⟩
theorem OwG.sl {w : World} {B g k : Nat} {r : List Gt} (h : OwG w B g k r) : gtE.Sl w B (.slice (some ⟨g, 0, none⟩) r.length k) r := ⟨_, _, rfl, h.2.1, fun _ => ⟨g, rfl, h.1, h.row⟩⟩
/-- An empty row, made anew. -/
theorem OwG.empty {w : World} {B g : Nat} (h : w.heap[g]? = some (.cells #[] 44 (0, 0))) (hB : B ≤ g) : OwG w B g 0 [] := ⟨hB, Nat.le_refl _, Nat.zero_le _, #[], h, rfl, rfl⟩
/-- Rows, each in a block of its own from B on. -/
def OwR (w : World) (B : Nat) (vs : List Value) (M : List (List Gt)) : Prop :=
  vs.length = M.length ∧ ∃ G K : Nat → Nat, (∀ j r, M[j]? = some r → vs[j]? = some (.slice (some ⟨G j, 0, none⟩) r.length (K j)) ∧ OwG w B (G j) (K j) r) ∧ ∀ i j, i < M.length → j < M.length → G i = G j → i = j
theorem OwR.nil {w : World} {B : Nat} : OwR w B [] [] := ⟨rfl, fun _ => 0, fun _ => 0, fun j r h => by simp at h, fun i j h => absurd h (Nat.not_lt_zero _)⟩
theorem OwR.keep {w w' : World} {B : Nat} {vs : List Value} {M : List (List Gt)} (h : OwR w B vs M) (hb : ∀ k, B ≤ k → k < w.heap.size → (∃ cs, w.heap[k]? = some (.cells cs 44 (0, 0))) → w'.heap[k]? = w.heap[k]?) : OwR w' B vs M := by
  obtain ⟨h1, G, K, h2, h3⟩ := h
  refine ⟨h1, G, K, fun j r hr => ?_, h3⟩
  obtain ⟨a, b⟩ := h2 j r hr
  refine ⟨a, b.block (hb _ b.1 b.lt ?_)⟩
  obtain ⟨-, -, -, cur, h4, -⟩ := b
  exact ⟨cur, h4⟩
theorem OwR.below {w w' : World} {B : Nat} {vs : List Value} {M : List (List Gt)} (h : OwR w B vs M) (hb : Below w.heap.size w w') : OwR w' B vs M := h.keep fun k _ hk _ => hb.block k hk
theorem OwR.at {w : World} {B : Nat} {vs : List Value} {M : List (List Gt)} (h : OwR w B vs M) {j : Nat} {r : List Gt} (hr : M[j]? = some r) : ∃ g k, vs[j]? = some (.slice (some ⟨g, 0, none⟩) r.length k) ∧ OwG w B g k r := by
  obtain ⟨-, G, K, h2, -⟩ := h
  exact ⟨G j, K j, h2 j r hr⟩
/-- One row written anew, in its block or in a new one. -/
theorem OwR.turn {w w' : World} {B : Nat} {vs : List Value} {M : List (List Gt)} (h : OwR w B vs M) {j : Nat} {r : List Gt} {g k : Nat} (hr : M[j]? = some r) (hv : vs[j]? = some (.slice (some ⟨g, 0, none⟩) r.length k))
    {g' k' : Nat} {r' : List Gt} (hn : OwG w' B g' k' r') (hg : g' = g ∨ w.heap.size ≤ g') (hb : ∀ b, b < w.heap.size → b ≠ g → w'.heap[b]? = w.heap[b]?) :
    OwR w' B (vs.set j (.slice (some ⟨g', 0, none⟩) r'.length k')) (M.set j r') := by
  obtain ⟨h1, G, K, h2, h3⟩ := h
  have hj : j < M.length := by
    rcases Nat.lt_or_ge j M.length with h' | h'
    · exact h'
    · rw [List.getElem?_eq_none h'] at hr; cases hr
  have hG : G j = g := by
    have := (h2 j r hr).1
    rw [hv] at this
    injection this with this
    injection this with this
    injection this with this
    injection this with this
    exact this.symm
  refine ⟨by rw [List.length_set, List.length_set]; exact h1, fun i => if i = j then g' else G i, fun i => if i = j then k' else K i, fun i s hs => ?_, fun a b ha hb' hab => ?_⟩
  · dsimp only
    by_cases e : i = j
    · subst e
      rw [List.getElem?_set_self hj] at hs
      injection hs with hs
      subst hs
      rw [if_pos rfl, if_pos rfl, List.getElem?_set_self (by omega)]
      exact ⟨rfl, hn⟩
    · rw [List.getElem?_set_ne (Ne.symm e)] at hs
      rw [if_neg e, if_neg e, List.getElem?_set_ne (Ne.symm e)]
      obtain ⟨a, b⟩ := h2 i s hs
      refine ⟨a, b.block (hb _ b.lt ?_)⟩
      intro h
      have hi : i < M.length := by
        rcases Nat.lt_or_ge i M.length with h' | h'
        · exact h'
        · rw [List.getElem?_eq_none h'] at hs; cases hs
      exact e (h3 i j hi hj (by rw [h, hG]))
  · dsimp only at hab
    rw [List.length_set] at ha hb'
    have low : ∀ i, i < M.length → G i < w.heap.size := fun i hi => (h2 i M[i] (List.getElem?_eq_getElem hi)).2.lt
    by_cases ea : a = j
    · by_cases eb : b = j
      · rw [ea, eb]
      · exfalso
        rw [if_pos ea, if_neg eb] at hab
        rcases hg with e | e
        · exact eb (h3 b j hb' hj (by rw [← hab, e, hG]))
        · have := low b hb'; omega
    · by_cases eb : b = j
      · exfalso
        rw [if_neg ea, if_pos eb] at hab
        rcases hg with e | e
        · exact ea (h3 a j ha hj (by rw [hab, e, hG]))
        · have := low a ha; omega
      · rw [if_neg ea, if_neg eb] at hab
        exact h3 a b ha hb' hab
/-- A row more, in a new block. -/
theorem OwR.snoc {w w' : World} {B : Nat} {vs : List Value} {M : List (List Gt)} (h : OwR w B vs M) {g' k' : Nat} {r' : List Gt} (hn : OwG w' B g' k' r') (hg : w.heap.size ≤ g') (hb : ∀ b, b < w.heap.size → (∃ cs, w.heap[b]? = some (.cells cs 44 (0, 0))) → w'.heap[b]? = w.heap[b]?) :
    OwR w' B (vs ++ [.slice (some ⟨g', 0, none⟩) r'.length k']) (M ++ [r']) := by
  obtain ⟨h1, G, K, h2, h3⟩ := h
  have low : ∀ i, i < M.length → G i < w.heap.size := fun i hi => (h2 i M[i] (List.getElem?_eq_getElem hi)).2.lt
  refine ⟨by simp [h1], fun i => if i = M.length then g' else G i, fun i => if i = M.length then k' else K i, fun i s hs => ?_, fun a b ha hb' hab => ?_⟩
  · dsimp only
    rcases Nat.lt_trichotomy i M.length with hi | rfl | hi
    · rw [List.getElem?_append_left hi] at hs
      rw [if_neg (by omega), if_neg (by omega), List.getElem?_append_left (by omega)]
      obtain ⟨a, b⟩ := h2 i s hs
      refine ⟨a, b.block (hb _ b.lt ?_)⟩
      obtain ⟨-, -, -, cur, h4, -⟩ := b
      exact ⟨cur, h4⟩
    · rw [List.getElem?_append_right (Nat.le_refl _), Nat.sub_self] at hs
      simp at hs
      subst hs
      rw [if_pos rfl, if_pos rfl, List.getElem?_append_right (by omega), h1, Nat.sub_self]
      exact ⟨rfl, hn⟩
    · rw [List.getElem?_eq_none (by simp; omega)] at hs; cases hs
  · dsimp only at hab
    rw [List.length_append, List.length_singleton] at ha hb'
    by_cases ea : a = M.length
    · by_cases eb : b = M.length
      · omega
      · exfalso
        rw [if_pos ea, if_neg eb] at hab
        have := low b (by omega)
        omega
    · by_cases eb : b = M.length
      · exfalso
        rw [if_neg ea, if_pos eb] at hab
        have := low a (by omega)
        omega
      · rw [if_neg ea, if_neg eb] at hab
        exact h3 a b (by omega) (by omega) hab
/-- Such rows are rows of slices as the laws take them. -/
theorem OwR.rwg {w : World} {B : Nat} {vs : List Value} {M : List (List Gt)} (h : OwR w B vs M) : RwG w B w.heap.size vs M := by
  obtain ⟨h1, G, K, h2, h3⟩ := h
  refine ⟨h1, G, fun j v r hv hr => ?_, fun i j r s hr hs _ _ e => ?_⟩
  · obtain ⟨a, b⟩ := h2 j r hr
    rw [hv] at a
    injection a with a
    exact ⟨_, _, a, b.2.1, fun _ => ⟨rfl, b.1, b.lt, b.row⟩⟩
  · have hi : i < M.length := by
      rcases Nat.lt_or_ge i M.length with h' | h'
      · exact h'
      · rw [List.getElem?_eq_none h'] at hr; cases hr
    have hj : j < M.length := by
      rcases Nat.lt_or_ge j M.length with h' | h'
      · exact h'
      · rw [List.getElem?_eq_none h'] at hs; cases hs
    exact h3 i j hi hj e
end Go.Proofs.YtckfklpgnneodaaGreat
namespace Go.Proofs.YtckfklpgnneodaaGreat
open Go.RowKit
theorem mtG_all (g h : Gt) : mtG g h = !((gqs g).all fun q => !decide (q ∈ gqs h)) := by
  unfold mtG
  rw [Bool.eq_iff_iff]
  simp
theorem anyG_all (L : List Gt) (h : Gt) : anyG L h = !(L.all fun g => !mtG g h) := by
  unfold anyG
  rw [Bool.eq_iff_iff]
  simp
def HGq (w : World) (b : Nat) (y : Gt) (gl j : Nat) (q : Int) (w' : World) : Prop := w'.cell? ⟨b, 0, none⟩ = some (.int .i64 y.k) ∧ w'.cell? ⟨b, 1, none⟩ = some (.int .i64 y.a) ∧ w'.cell? ⟨b, 2, none⟩ = some (.int .i64 y.b) ∧ w'.cell? ⟨b, 3, none⟩ = some (.int .i64 y.c) ∧ w'.cell? ⟨gl, j, none⟩ = some (.int .i64 q) ∧ b < w'.heap.size ∧ gl < w'.heap.size ∧ Below w.heap.size w w'
theorem HGq.drew {w w1 : World} {b : Nat} {y : Gt} {gl j : Nat} {q : Int} (h : HGq w b y gl j q w1) : HGq w b y gl j q w1.drew :=
  let ⟨c0, c1, c2, c3, c4, z0, z1, l⟩ := h; ⟨c0, c1, c2, c3, c4, z0, z1, l.drew⟩
theorem HGq.below {w w1 w2 : World} {b : Nat} {y : Gt} {gl j : Nat} {q : Int} (h : HGq w b y gl j q w1) (hb : Below w1.heap.size w1 w2) : HGq w b y gl j q w2 :=
  let ⟨c0, c1, c2, c3, c4, z0, z1, l⟩ := h
  ⟨cell_below c0 hb z0, cell_below c1 hb z0, cell_below c2 hb z0, cell_below c3 hb z0, cell_below c4 hb z1, Nat.lt_of_lt_of_le z0 hb.size, Nat.lt_of_lt_of_le z1 hb.size, below_up l hb l.size⟩
theorem HGq.low {w w1 : World} {b : Nat} {y : Gt} {gl j : Nat} {q : Int} (h : HGq w b y gl j q w1) : Below w.heap.size w w1 := let ⟨_, _, _, _, _, _, _, l⟩ := h; l
def HGx (w : World) (b : Nat) (y : Gt) (gl o : Nat) (x : Gt) (w' : World) : Prop := w'.cell? ⟨b, 0, none⟩ = some (.int .i64 y.k) ∧ w'.cell? ⟨b, 1, none⟩ = some (.int .i64 y.a) ∧ w'.cell? ⟨b, 2, none⟩ = some (.int .i64 y.b) ∧ w'.cell? ⟨b, 3, none⟩ = some (.int .i64 y.c) ∧ w'.cell? ⟨gl, o, none⟩ = some (.int .i64 x.k) ∧ w'.cell? ⟨gl, o + 1, none⟩ = some (.int .i64 x.a) ∧ w'.cell? ⟨gl, o + 2, none⟩ = some (.int .i64 x.b) ∧ w'.cell? ⟨gl, o + 3, none⟩ = some (.int .i64 x.c) ∧ b < w'.heap.size ∧ gl < w'.heap.size ∧ Below w.heap.size w w'
theorem HGx.drew {w w1 : World} {b : Nat} {y : Gt} {gl o : Nat} {x : Gt} (h : HGx w b y gl o x w1) : HGx w b y gl o x w1.drew :=
  let ⟨c0, c1, c2, c3, c4, c5, c6, c7, z0, z1, l⟩ := h; ⟨c0, c1, c2, c3, c4, c5, c6, c7, z0, z1, l.drew⟩
theorem HGx.below {w w1 w2 : World} {b : Nat} {y : Gt} {gl o : Nat} {x : Gt} (h : HGx w b y gl o x w1) (hb : Below w1.heap.size w1 w2) : HGx w b y gl o x w2 :=
  let ⟨c0, c1, c2, c3, c4, c5, c6, c7, z0, z1, l⟩ := h
  ⟨cell_below c0 hb z0, cell_below c1 hb z0, cell_below c2 hb z0, cell_below c3 hb z0, cell_below c4 hb z1, cell_below c5 hb z1, cell_below c6 hb z1, cell_below c7 hb z1, Nat.lt_of_lt_of_le z0 hb.size, Nat.lt_of_lt_of_le z1 hb.size, below_up l hb l.size⟩
theorem HGx.low {w w1 : World} {b : Nat} {y : Gt} {gl o : Nat} {x : Gt} (h : HGx w b y gl o x w1) : Below w.heap.size w w1 := let ⟨_, _, _, _, _, _, _, _, _, _, l⟩ := h; l
attribute [local irreducible] World.cell?
set_option maxRecDepth 100000 in
set_option maxHeartbeats 3200000 in
theorem smeets (g h : Gt) (w : World) : Calls Tryz.prog 55 #[(.agg #[.int .i64 g.k, .int .i64 g.a, .int .i64 g.b, .int .i64 g.c]), (.agg #[.int .i64 h.k, .int .i64 h.a, .int .i64 h.b, .int .i64 h.c])] w fun e w' => e = .returned (.bool (mtG g h)) ∧ Below w.heap.size w w' := by
  have Hb0 := Lib.hid (show Below w.heap.size w ((w.alloc (.cells #[.int .i64 g.k, .int .i64 g.a, .int .i64 g.b, .int .i64 g.c] 44)).alloc (.cells #[.int .i64 h.k, .int .i64 h.a, .int .i64 h.b, .int .i64 h.c] 44)) by go_grown)
  have HG := Lib.hid (alloc_blk (.cells #[.int .i64 h.k, .int .i64 h.a, .int .i64 h.b, .int .i64 h.c] 44) (heap_alloc_new w (.cells #[.int .i64 g.k, .int .i64 g.a, .int .i64 g.b, .int .i64 g.c] 44)))
  have HX := Lib.hid (show ((w.alloc (.cells #[.int .i64 g.k, .int .i64 g.a, .int .i64 g.b, .int .i64 g.c] 44)).alloc (.cells #[.int .i64 h.k, .int .i64 h.a, .int .i64 h.b, .int .i64 h.c] 44)).heap[w.heap.size + 1]? = some (.cells #[.int .i64 h.k, .int .i64 h.a, .int .i64 h.b, .int .i64 h.c] 44 (0, 0)) from by simpa using heap_alloc_new (w.alloc (.cells #[.int .i64 g.k, .int .i64 g.a, .int .i64 g.b, .int .i64 g.c] 44)) (.cells #[.int .i64 h.k, .int .i64 h.a, .int .i64 h.b, .int .i64 h.c] 44))
  have Hq := Lib.hid (fun W => sgqs g W)
  have Ha := Lib.hid (fun q W => sacts h q W)
  have hql := gqs_len g
  have h3 := ar_le g.k
  have HT := Lib.hid (mtG_all g h)
  obtain ⟨T, hT⟩ : ∃ T, T = mtG g h := ⟨_, rfl⟩
  rw [← hT] at HT ⊢
  clear hT
  obtain ⟨a0, a1, a2, a3⟩ := blk_cells HG.out
  have hgl := lt_of_block HG.out
  go_enter Tryz.func55, Tryz.ntmps55
  go_wp2_with fail
  refine (Hq.out _).mono ?_
  rintro e w1 ⟨v, rfl, hd1, hb1⟩
  have HX1 := Lib.hid (below_blk hb1 (lt_of_block HX.out) HX.out)
  have Hd1 := Lib.hid hd1
  have Hb1 := Lib.hid (below_nx Hb0.out hb1)
  clear hb1 a0 a1 a2 a3 hgl
  obtain ⟨al, cl, rfl, -, hr⟩ := hd1
  have Hr := Lib.hid hr
  clear hr
  have hqm : (gqs g).length ≤ 3 := by omega
  have hlen : (gqs g).length ≤ 1048576 := by omega
  generalize gqs g = L at *
  go_wp2_with fail
  go_loopg [6] L.length (fun m i wr => ∃ j : Nat, m = L.length - j ∧ j ≤ L.length ∧ i = .int .i64 j ∧ Hid ((L.take j).all (fun q => !decide (q ∈ gqs h)) = true) ∧ Hid (wr.heap[w.heap.size + 1]? = some (.cells #[.int .i64 h.k, .int .i64 h.a, .int .i64 h.b, .int .i64 h.c] 44 (0, 0))) ∧ Hid (Below w1.heap.size w1 wr))
  case atStart => exact ⟨0, rfl, Nat.zero_le _, rfl, rfl, HX1, Below.refl _ _⟩
  case round =>
    obtain ⟨j, rfl, hj, rfl, Hyes, HC, Hb⟩ := hrel
    obtain ⟨p0, p1, p2, p3⟩ := blk_cells HC.out
    have hCl := lt_of_block HC.out
    by_cases hlt : j < L.length
    · obtain ⟨gl, rfl, _, hrow⟩ := Hr.out (by omega)
      obtain ⟨q, hx⟩ : ∃ q, L[j]? = some q := ⟨L[j], List.getElem?_eq_getElem hlt⟩
      have r1 := hrow.below Hb.out hrow.lt
      have c0 := IRow.cell r1 hx
      have hgl := r1.lt
      have Hv := Lib.hid (Ha.out q)
      have Hat := Lib.hid (all_take (p := fun q => !decide (q ∈ gqs h)) hx Hyes.out)
      have Hno := Lib.hid (fun k => all_no (p := fun q => !decide (q ∈ gqs h)) hx k)
      have hS : HGq wr (w.heap.size + 1) h gl j q wr := ⟨p0, p1, p2, p3, c0, hCl, hgl, Below.refl _ _⟩
      clear hrow r1 hx
      cases hok : decide (q ∈ gqs h) with
      | true =>
        rw [hok] at Hv
        have hT := HT.out
        rw [Hno.out (by simp only [hok]; rfl)] at hT
        obtain rfl : T = true := hT
        clear hok
        go_upto_region 5 with fail
        go_region_held3 (fun w' => w'.cell? ⟨(w.heap.size + 1), 0, none⟩ = some (.int .i64 h.k) ∧ w'.cell? ⟨(w.heap.size + 1), 1, none⟩ = some (.int .i64 h.a) ∧ w'.cell? ⟨(w.heap.size + 1), 2, none⟩ = some (.int .i64 h.b) ∧ w'.cell? ⟨(w.heap.size + 1), 3, none⟩ = some (.int .i64 h.c) ∧ w'.cell? ⟨gl, j, none⟩ = some (.int .i64 q) ∧ (w.heap.size + 1) < w'.heap.size ∧ gl < w'.heap.size ∧ Below wr.heap.size wr w') (first | (show HGq wr (w.heap.size + 1) h gl j q _; (with_reducible exact hS.drew)) | (show HGq wr (w.heap.size + 1) h gl j q _; exact hS.drew.below hbR) | (show HGq wr (w.heap.size + 1) h gl j q _; (with_reducible refine HGq.below ?_ hbR); first | assumption | exact ⟨by assumption, by assumption, by assumption, by assumption, by assumption, by assumption, by assumption, by assumption⟩))
          (first | (go_at_call 72; (with_reducible refine (Hv.out _).mono ?_); rintro e wR ⟨rfl, hbR⟩))
        have Hb2 := Lib.hid (below_up (below_up Hb1.out Hb.out Hb1.out.size).drew hbR (Nat.le_trans Hb1.out.size Hb.out.size))
        go_wp2_with fail
        go_ret
        exact ⟨rfl, Hb2.out⟩
      | false =>
        rw [hok] at Hv
        have Hat2 := Lib.hid (Hat.out.trans (by simp only [hok]; rfl))
        clear hok Hat
        go_upto_region 5 with fail
        go_region_held3 (fun w' => w'.cell? ⟨(w.heap.size + 1), 0, none⟩ = some (.int .i64 h.k) ∧ w'.cell? ⟨(w.heap.size + 1), 1, none⟩ = some (.int .i64 h.a) ∧ w'.cell? ⟨(w.heap.size + 1), 2, none⟩ = some (.int .i64 h.b) ∧ w'.cell? ⟨(w.heap.size + 1), 3, none⟩ = some (.int .i64 h.c) ∧ w'.cell? ⟨gl, j, none⟩ = some (.int .i64 q) ∧ (w.heap.size + 1) < w'.heap.size ∧ gl < w'.heap.size ∧ Below wr.heap.size wr w') (first | (show HGq wr (w.heap.size + 1) h gl j q _; (with_reducible exact hS.drew)) | (show HGq wr (w.heap.size + 1) h gl j q _; exact hS.drew.below hbR) | (show HGq wr (w.heap.size + 1) h gl j q _; (with_reducible refine HGq.below ?_ hbR); first | assumption | exact ⟨by assumption, by assumption, by assumption, by assumption, by assumption, by assumption, by assumption, by assumption⟩))
          (first | (go_at_call 72; (with_reducible refine (Hv.out _).mono ?_); rintro e wR ⟨rfl, hbR⟩))
        have Hb2 := Lib.hid (below_up Hb.out.drew hbR Hb.out.size)
        have HC2 := Lib.hid (below_blk hbR (by show w.heap.size + 1 < wr.heap.size; exact hCl) (show wr.drew.heap[w.heap.size + 1]? = _ from HC.out))
        go_wp2_with fail
        go_roundg (L.length - (j + 1))
        case measure => omega
        case rel => exact ⟨j + 1, rfl, by omega, by go_num, Hat2, HC2, Hb2⟩
    · obtain rfl : j = L.length := by omega
      have hall := Hyes.out
      rw [List.take_length] at hall
      have hT := HT.out
      rw [hall] at hT
      obtain rfl : T = false := hT
      have Hb2 := Lib.hid (below_up Hb1.out Hb.out Hb1.out.size)
      go_wp2_with fail
      go_ret
      exact ⟨rfl, Hb2.out⟩
set_option maxRecDepth 100000 in
set_option maxHeartbeats 3200000 in
theorem sany (B : Nat) (v : Value) (L : List Gt) (h : Gt) (w : World) (hv : gtE.Sl w B v L) (hm : L.length ≤ 1048576) :
    Calls Tryz.prog 39 #[v, (.agg #[.int .i64 h.k, .int .i64 h.a, .int .i64 h.b, .int .i64 h.c])] w fun e w' => e = .returned (.bool (anyG L h)) ∧ Below w.heap.size w w' := by
  have Hb0 := Lib.hid (show Below w.heap.size w (w.alloc (.cells #[.int .i64 h.k, .int .i64 h.a, .int .i64 h.b, .int .i64 h.c] 44)) by go_grown)
  have HX := Lib.hid (heap_alloc_new w (.cells #[.int .i64 h.k, .int .i64 h.a, .int .i64 h.b, .int .i64 h.c] 44))
  have Ha := Lib.hid (fun x W => smeets x h W)
  have HT := Lib.hid (anyG_all L h)
  obtain ⟨T, hT⟩ : ∃ T, T = anyG L h := ⟨_, rfl⟩
  rw [← hT] at HT ⊢
  clear hT
  obtain ⟨a, cap, rfl, hcap, hr⟩ := hv
  have Hr := Lib.hid hr
  clear hr
  go_enter Tryz.func39, Tryz.ntmps39
  go_wp2_with fail
  go_loopg [5] L.length (fun m i wr => ∃ j : Nat, m = L.length - j ∧ j ≤ L.length ∧ i = .int .i64 j ∧ Hid ((L.take j).all (fun g => !mtG g h) = true) ∧ Hid (wr.heap[w.heap.size]? = some (.cells #[.int .i64 h.k, .int .i64 h.a, .int .i64 h.b, .int .i64 h.c] 44 (0, 0))) ∧ Hid (Below w.heap.size w wr))
  case atStart => exact ⟨0, rfl, Nat.zero_le _, rfl, rfl, HX, Hb0⟩
  case round =>
    obtain ⟨j, rfl, hj, rfl, Hyes, HC, Hb⟩ := hrel
    obtain ⟨p0, p1, p2, p3⟩ := blk_cells HC.out
    have hCl := lt_of_block HC.out
    by_cases hlt : j < L.length
    · obtain ⟨gl, rfl, _, hrow⟩ := Hr.out (by omega)
      obtain ⟨x, hx⟩ : ∃ x, L[j]? = some x := ⟨L[j], List.getElem?_eq_getElem hlt⟩
      have r1 := hrow.below Hb.out hrow.lt
      obtain ⟨c0, c1, c2, c3⟩ := GRow.cells r1 hx
      have hgl := r1.lt
      have Hv := Lib.hid (Ha.out x)
      have Hat := Lib.hid (all_take (p := fun g => !mtG g h) hx Hyes.out)
      have Hno := Lib.hid (fun k => all_no (p := fun g => !mtG g h) hx k)
      have hS : HGx wr w.heap.size h gl (j * 4) x wr := ⟨p0, p1, p2, p3, c0, c1, c2, c3, hCl, hgl, Below.refl _ _⟩
      clear hrow r1 hx
      cases hok : mtG x h with
      | true =>
        rw [hok] at Hv
        have hT := HT.out
        rw [Hno.out (by simp only [hok]; rfl)] at hT
        obtain rfl : T = true := hT
        clear hok
        go_upto_region 4 with fail
        go_region_held3 (fun w' => w'.cell? ⟨w.heap.size, 0, none⟩ = some (.int .i64 h.k) ∧ w'.cell? ⟨w.heap.size, 1, none⟩ = some (.int .i64 h.a) ∧ w'.cell? ⟨w.heap.size, 2, none⟩ = some (.int .i64 h.b) ∧ w'.cell? ⟨w.heap.size, 3, none⟩ = some (.int .i64 h.c) ∧ w'.cell? ⟨gl, (j * 4), none⟩ = some (.int .i64 x.k) ∧ w'.cell? ⟨gl, (j * 4) + 1, none⟩ = some (.int .i64 x.a) ∧ w'.cell? ⟨gl, (j * 4) + 2, none⟩ = some (.int .i64 x.b) ∧ w'.cell? ⟨gl, (j * 4) + 3, none⟩ = some (.int .i64 x.c) ∧ w.heap.size < w'.heap.size ∧ gl < w'.heap.size ∧ Below wr.heap.size wr w') (first | (show HGx wr w.heap.size h gl (j * 4) x _; (with_reducible exact hS.drew)) | (show HGx wr w.heap.size h gl (j * 4) x _; exact hS.drew.below hbR) | (show HGx wr w.heap.size h gl (j * 4) x _; (with_reducible refine HGx.below ?_ hbR); first | assumption | exact ⟨by assumption, by assumption, by assumption, by assumption, by assumption, by assumption, by assumption, by assumption, by assumption, by assumption, by assumption⟩))
          (first | (go_at_call 55; (with_reducible refine (Hv.out _).mono ?_); rintro e wR ⟨rfl, hbR⟩))
        have Hb2 := Lib.hid (below_up Hb.out.drew hbR Hb.out.size)
        go_wp2_with fail
        go_ret
        exact ⟨rfl, Hb2.out⟩
      | false =>
        rw [hok] at Hv
        have Hat2 := Lib.hid (Hat.out.trans (by simp only [hok]; rfl))
        clear hok Hat
        go_upto_region 4 with fail
        go_region_held3 (fun w' => w'.cell? ⟨w.heap.size, 0, none⟩ = some (.int .i64 h.k) ∧ w'.cell? ⟨w.heap.size, 1, none⟩ = some (.int .i64 h.a) ∧ w'.cell? ⟨w.heap.size, 2, none⟩ = some (.int .i64 h.b) ∧ w'.cell? ⟨w.heap.size, 3, none⟩ = some (.int .i64 h.c) ∧ w'.cell? ⟨gl, (j * 4), none⟩ = some (.int .i64 x.k) ∧ w'.cell? ⟨gl, (j * 4) + 1, none⟩ = some (.int .i64 x.a) ∧ w'.cell? ⟨gl, (j * 4) + 2, none⟩ = some (.int .i64 x.b) ∧ w'.cell? ⟨gl, (j * 4) + 3, none⟩ = some (.int .i64 x.c) ∧ w.heap.size < w'.heap.size ∧ gl < w'.heap.size ∧ Below wr.heap.size wr w') (first | (show HGx wr w.heap.size h gl (j * 4) x _; (with_reducible exact hS.drew)) | (show HGx wr w.heap.size h gl (j * 4) x _; exact hS.drew.below hbR) | (show HGx wr w.heap.size h gl (j * 4) x _; (with_reducible refine HGx.below ?_ hbR); first | assumption | exact ⟨by assumption, by assumption, by assumption, by assumption, by assumption, by assumption, by assumption, by assumption, by assumption, by assumption, by assumption⟩))
          (first | (go_at_call 55; (with_reducible refine (Hv.out _).mono ?_); rintro e wR ⟨rfl, hbR⟩))
        have Hb2 := Lib.hid (below_up Hb.out.drew hbR Hb.out.size)
        have HC2 := Lib.hid (below_blk hbR (by show w.heap.size < wr.heap.size; exact hCl) (show wr.drew.heap[w.heap.size]? = _ from HC.out))
        go_wp2_with fail
        go_roundg (L.length - (j + 1))
        case measure => omega
        case rel => exact ⟨j + 1, rfl, by omega, by go_num, Hat2, HC2, Hb2⟩
    · obtain rfl : j = L.length := by omega
      have hall := Hyes.out
      rw [List.take_length] at hall
      have hT := HT.out
      rw [hall] at hT
      obtain rfl : T = false := hT
      go_wp2_with fail
      go_ret
      exact ⟨rfl, Hb.out⟩
end Go.Proofs.YtckfklpgnneodaaGreat
namespace Go.Proofs.YtckfklpgnneodaaGreat
open Go.RowKit
/-- A contribution, six cells. -/
def contE : Enc (Nat × Dw) := ⟨fun p => .int .i64 (p.1 : Int) :: fl p.2, 6, 120, fun _ => rfl, fun x u h => by
  rw [List.mem_cons] at h
  rcases h with rfl | h
  · rfl
  · simp [fl] at h; rcases h with rfl | rfl | rfl | rfl | rfl <;> rfl⟩
theorem new_cont (w : World) (i : Nat) (x : Dw) : contE.Sl (w.alloc (.cells #[.int .i64 (i : Int), .int .i64 x.n.a, .int .i64 x.n.b, .int .i64 x.n.c, .int .i64 x.n.d, .int .i64 x.e] 120)) w.heap.size (.slice (some ⟨w.heap.size, 0, none⟩) 1 1) [(i, x)] :=
  Enc.Sl.mk rfl (Nat.le_refl _) (Nat.le_refl _) ⟨_, heap_alloc_new w _, rfl⟩
theorem new_cont2 (w : World) (i j : Nat) (x y : Dw) : contE.Sl (w.alloc (.cells #[.int .i64 (i : Int), .int .i64 x.n.a, .int .i64 x.n.b, .int .i64 x.n.c, .int .i64 x.n.d, .int .i64 x.e, .int .i64 (j : Int), .int .i64 y.n.a, .int .i64 y.n.b, .int .i64 y.n.c, .int .i64 y.n.d, .int .i64 y.e] 120)) w.heap.size (.slice (some ⟨w.heap.size, 0, none⟩) 2 2) [(i, x), (j, y)] :=
  Enc.Sl.mk rfl (Nat.le_refl _) (Nat.le_refl _) ⟨_, heap_alloc_new w _, rfl⟩
def bI (b : Bool) : Int := if b then 1 else 0
theorem bI_all : ∀ i : Fin 16, ∀ q : Fin 4, bits .and .i64 (((i.val : Nat) : Int) / 2 ^ q.val) 1 = bI (bitN i.val q.val) := by decide +kernel
theorem ibit {i q : Nat} (hi : i < 16) (hq : q < 4) {b : Bool} (hb : bitN i q = b) (w : World) :
    Calls Tryz.prog 128 #[.int .i64 (i : Int), .int .i64 (q : Int)] w fun e w' => e = .returned (.int .i64 (bI b)) ∧ w = w' := by
  rw [← hb, ← show _ = bI (bitN i q) from bI_all ⟨i, hi⟩ ⟨q, hq⟩]
  exact ibitOf i q w (by omega)
attribute [local irreducible] World.cell?
set_option maxRecDepth 100000 in
set_option maxHeartbeats 1600000 in
theorem imove {x k : Int} {J : Nat} {P : Dw} (hx : x = (J : Int)) (hk : dPh k = P) (w : World) :
    Calls Tryz.prog 127 #[.int .i64 x, .int .i64 k] w fun e w' => ∃ v, e = .returned v ∧ contE.Sl w' w.heap.size v [(J, P)] ∧ Below w.heap.size w w' := by
  subst hx
  have H := Lib.hid (show ∀ W, Calls Tryz.prog 143 #[.int .i64 k] W fun e w' => e = .returned (.agg #[.int .i64 P.n.a, .int .i64 P.n.b, .int .i64 P.n.c, .int .i64 P.n.d, .int .i64 P.e]) ∧ Below W.heap.size W w' from fun W => by
    have h := iphase_at k (k % 8).toNat W (by omega)
    rw [← hk]
    exact h)
  clear hk
  go_enter Tryz.func127, Tryz.ntmps127
  go_wp2_with fail
  refine (H.out _).mono ?_
  rintro e w1 ⟨rfl, hb1⟩
  have Hs := Lib.hid ((new_cont w1 J P).mono hb1.size)
  have Hb1 := Lib.hid hb1
  have hs1 := hb1.size
  clear hb1
  go_wp2_with fail
  go_ret
  exact ⟨_, rfl, Hs.out, by have := Hb1.out; go_grown⟩
set_option maxRecDepth 100000 in
set_option maxHeartbeats 3200000 in
theorem iflip (k : Int) (A B C i : Nat) (w : World) (hA : A < 4) (_ : B < 4) (_ : C < 4) (hi : i < 16) :
    Calls Tryz.prog 100 #[(.agg #[.int .i64 ((Gt.mk k A B C)).k, .int .i64 ((Gt.mk k A B C)).a, .int .i64 ((Gt.mk k A B C)).b, .int .i64 ((Gt.mk k A B C)).c]), .int .i64 i] w fun e w' => ∃ v, e = .returned v ∧ contE.Sl w' w.heap.size v [(flipN i A, dPh 0)] ∧ Below w.heap.size w w' := by
  have HX := Lib.hid (heap_alloc_new w (.cells #[.int .i64 ((Gt.mk k A B C)).k, .int .i64 ((Gt.mk k A B C)).a, .int .i64 ((Gt.mk k A B C)).b, .int .i64 ((Gt.mk k A B C)).c] 44))
  obtain ⟨c0, c1, c2, c3⟩ := blk_cells HX.out
  have hS : G1 w w.heap.size (Gt.mk k A B C) (w.alloc (.cells #[.int .i64 ((Gt.mk k A B C)).k, .int .i64 ((Gt.mk k A B C)).a, .int .i64 ((Gt.mk k A B C)).b, .int .i64 ((Gt.mk k A B C)).c] 44)) := ⟨c0, c1, c2, c3, by simp, by go_grown⟩
  have Hb0 := Lib.hid (show Below w.heap.size w (w.alloc (.cells #[.int .i64 ((Gt.mk k A B C)).k, .int .i64 ((Gt.mk k A B C)).a, .int .i64 ((Gt.mk k A B C)).b, .int .i64 ((Gt.mk k A B C)).c] 44)) by go_grown)
  have H := Lib.hid (fun W => imove (x := bits .xor .i64 (i : Int) (wrap64 (2 ^ A))) (k := 0) (flip_bits hi hA) rfl W)
  generalize flipN i A = j at *
  go_enter Tryz.func100, Tryz.ntmps100
  go_wp2_with fail
  refine (H.out _).mono ?_
  rintro e w1 ⟨v, rfl, hd, hb1⟩
  have Hd := Lib.hid (hd.mono (C := w.heap.size) (by simp))
  have Hb1 := Lib.hid (below_nx Hb0.out hb1)
  clear hd hb1
  go_wp2_with fail
  go_ret
  exact ⟨_, rfl, Hd.out, Hb1.out⟩
theorem flipW : ∀ i : Fin 16, ∀ q : Fin 4, bits .xor .i64 ((i.val : Nat) : Int) (IntKind.i64.wrap (2 ^ q.val)) = ((flipN i.val q.val : Nat) : Int) := by decide +kernel
theorem turnW : ∀ a : Bool, dPh (IntKind.i64.wrap (2 + IntKind.i64.wrap (4 * bI a))) = dPh (if a then 6 else 2) := by decide +kernel
theorem oneW : ∀ i : Fin 16, ∀ q r : Fin 4, bits .xor .i64 ((i.val : Nat) : Int) (IntKind.i64.wrap (bI (bitN i.val q.val) * 2 ^ r.val)) = ((if bitN i.val q.val then flipN i.val r.val else i.val : Nat) : Int) := by decide +kernel
theorem bothW : ∀ a b : Bool, dPh (IntKind.i64.wrap (4 * bits .and .i64 (bI a) (bI b))) = if (a && b) then dPh 4 else dPh 0 := by decide +kernel
theorem ccW : ∀ i : Fin 16, ∀ a b : Bool, ∀ r : Fin 4, bits .xor .i64 ((i.val : Nat) : Int) (IntKind.i64.wrap (bits .and .i64 (bI a) (bI b) * 2 ^ r.val)) = ((if (a && b) then flipN i.val r.val else i.val : Nat) : Int) := by decide +kernel
theorem exW : ∀ i : Fin 16, ∀ a b : Bool, ∀ q r : Fin 4, bits .xor .i64 (bits .xor .i64 ((i.val : Nat) : Int) (IntKind.i64.wrap (bits .xor .i64 (bI a) (bI b) * 2 ^ q.val))) (IntKind.i64.wrap (bits .xor .i64 (bI a) (bI b) * 2 ^ r.val)) = ((if a != b then flipN (flipN i.val q.val) r.val else i.val : Nat) : Int) := by decide +kernel
theorem unitW : ∀ a : Bool, (∀ u ∈ [(4 : Int), 2, 1], dPh (IntKind.i64.wrap (u * bI a)) = if a then dPh u else dPh 0) ∧ dPh (IntKind.i64.wrap (-2 * bI a)) = (if a then dPh 6 else dPh 0) ∧ dPh (IntKind.i64.wrap (-1 * bI a)) = if a then dPh 7 else dPh 0 := by decide +kernel
set_option maxRecDepth 100000 in
set_option maxHeartbeats 3200000 in
theorem iflipT (k : Int) (A B C i : Nat) (w : World) (hA : A < 4) (_ : B < 4) (_ : C < 4) (hi : i < 16) :
    Calls Tryz.prog 101 #[(.agg #[.int .i64 ((Gt.mk k A B C)).k, .int .i64 ((Gt.mk k A B C)).a, .int .i64 ((Gt.mk k A B C)).b, .int .i64 ((Gt.mk k A B C)).c]), .int .i64 i] w fun e w' => ∃ v, e = .returned v ∧ contE.Sl w' w.heap.size v [(flipN i A, dPh (if bitN i A then 6 else 2))] ∧ Below w.heap.size w w' := by
  have HX := Lib.hid (heap_alloc_new w (.cells #[.int .i64 ((Gt.mk k A B C)).k, .int .i64 ((Gt.mk k A B C)).a, .int .i64 ((Gt.mk k A B C)).b, .int .i64 ((Gt.mk k A B C)).c] 44))
  obtain ⟨c0, c1, c2, c3⟩ := blk_cells HX.out
  have hS : G1 w w.heap.size (Gt.mk k A B C) (w.alloc (.cells #[.int .i64 ((Gt.mk k A B C)).k, .int .i64 ((Gt.mk k A B C)).a, .int .i64 ((Gt.mk k A B C)).b, .int .i64 ((Gt.mk k A B C)).c] 44)) := ⟨c0, c1, c2, c3, by simp, by go_grown⟩
  have Hb0 := Lib.hid (show Below w.heap.size w (w.alloc (.cells #[.int .i64 ((Gt.mk k A B C)).k, .int .i64 ((Gt.mk k A B C)).a, .int .i64 ((Gt.mk k A B C)).b, .int .i64 ((Gt.mk k A B C)).c] 44)) by go_grown)
  have Hba := Lib.hid (fun W => ibit (i := i) (q := A) hi hA rfl W)
  have hx := flipW ⟨i, hi⟩ ⟨A, hA⟩
  have hk := turnW (bitN i A)
  generalize flipN i A = j at *
  generalize dPh (if bitN i A = true then 6 else 2) = P at *
  generalize bI (bitN i A) = ba at *
  go_enter Tryz.func101, Tryz.ntmps101
  go_upto_region 1 with fail
  go_region_held3 (fun w' => w'.cell? ⟨w.heap.size, 0, none⟩ = some (.int .i64 k) ∧ w'.cell? ⟨w.heap.size, 1, none⟩ = some (.int .i64 (A : Int)) ∧ w'.cell? ⟨w.heap.size, 2, none⟩ = some (.int .i64 (B : Int)) ∧ w'.cell? ⟨w.heap.size, 3, none⟩ = some (.int .i64 (C : Int)) ∧ w.heap.size < w'.heap.size ∧ Below w.heap.size w w') (first | (show G1 w w.heap.size (Gt.mk k A B C) _; (with_reducible exact hS.drew)) | (show G1 w w.heap.size (Gt.mk k A B C) _; (with_reducible refine G1.below ?_ hbR); first | assumption | exact ⟨by assumption, by assumption, by assumption, by assumption, by assumption, by assumption⟩))
    (first | (go_at_call 128; refine (Hba.out _).mono ?_; rintro e wR ⟨rfl, rfl⟩) | (go_at_call 127; refine (imove (J := j) (P := P) (by first | assumption | rfl) (by first | assumption | rfl) _).mono ?_; rintro e wQ ⟨v, rfl, hd, hbM⟩; have HD := Lib.hid hd; have hbR := hbM))
  all_goals
    have Hd := Lib.hid (HD.out.mono (C := w.heap.size) (by simp))
    have Hb1 := Lib.hid (below_nx Hb0.out.drew hbM)
  all_goals go_wp2_with fail
  all_goals go_ret
  all_goals exact ⟨_, rfl, Hd.out, Hb1.out⟩
set_option maxRecDepth 100000 in
set_option maxHeartbeats 3200000 in
theorem iflipO (k : Int) (A B C i : Nat) (w : World) (hA : A < 4) (hB : B < 4) (_ : C < 4) (hi : i < 16) :
    Calls Tryz.prog 104 #[(.agg #[.int .i64 ((Gt.mk k A B C)).k, .int .i64 ((Gt.mk k A B C)).a, .int .i64 ((Gt.mk k A B C)).b, .int .i64 ((Gt.mk k A B C)).c]), .int .i64 i] w fun e w' => ∃ v, e = .returned v ∧ contE.Sl w' w.heap.size v [(if bitN i A then flipN i B else i, dPh 0)] ∧ Below w.heap.size w w' := by
  have HX := Lib.hid (heap_alloc_new w (.cells #[.int .i64 ((Gt.mk k A B C)).k, .int .i64 ((Gt.mk k A B C)).a, .int .i64 ((Gt.mk k A B C)).b, .int .i64 ((Gt.mk k A B C)).c] 44))
  obtain ⟨c0, c1, c2, c3⟩ := blk_cells HX.out
  have hS : G1 w w.heap.size (Gt.mk k A B C) (w.alloc (.cells #[.int .i64 ((Gt.mk k A B C)).k, .int .i64 ((Gt.mk k A B C)).a, .int .i64 ((Gt.mk k A B C)).b, .int .i64 ((Gt.mk k A B C)).c] 44)) := ⟨c0, c1, c2, c3, by simp, by go_grown⟩
  have Hb0 := Lib.hid (show Below w.heap.size w (w.alloc (.cells #[.int .i64 ((Gt.mk k A B C)).k, .int .i64 ((Gt.mk k A B C)).a, .int .i64 ((Gt.mk k A B C)).b, .int .i64 ((Gt.mk k A B C)).c] 44)) by go_grown)
  have Hba := Lib.hid (fun W => ibit (i := i) (q := A) hi hA rfl W)
  have hx := oneW ⟨i, hi⟩ ⟨A, hA⟩ ⟨B, hB⟩
  generalize (if bitN i A = true then flipN i B else i) = j at *
  obtain ⟨P, hP⟩ : ∃ P, dPh 0 = P := ⟨_, rfl⟩
  rw [hP]
  generalize bI (bitN i A) = ba at *
  go_enter Tryz.func104, Tryz.ntmps104
  go_upto_region 1 with fail
  go_region_held3 (fun w' => w'.cell? ⟨w.heap.size, 0, none⟩ = some (.int .i64 k) ∧ w'.cell? ⟨w.heap.size, 1, none⟩ = some (.int .i64 (A : Int)) ∧ w'.cell? ⟨w.heap.size, 2, none⟩ = some (.int .i64 (B : Int)) ∧ w'.cell? ⟨w.heap.size, 3, none⟩ = some (.int .i64 (C : Int)) ∧ w.heap.size < w'.heap.size ∧ Below w.heap.size w w') (first | (show G1 w w.heap.size (Gt.mk k A B C) _; (with_reducible exact hS.drew)) | (show G1 w w.heap.size (Gt.mk k A B C) _; (with_reducible refine G1.below ?_ hbR); first | assumption | exact ⟨by assumption, by assumption, by assumption, by assumption, by assumption, by assumption⟩))
    (first | (go_at_call 128; refine (Hba.out _).mono ?_; rintro e wR ⟨rfl, rfl⟩) | (go_at_call 127; refine (imove (J := j) (P := P) (by first | assumption | rfl) (by first | assumption | rfl) _).mono ?_; rintro e wQ ⟨v, rfl, hd, hbM⟩; have HD := Lib.hid hd; have hbR := hbM))
  all_goals
    have Hd := Lib.hid (HD.out.mono (C := w.heap.size) (by simp))
    have Hb1 := Lib.hid (below_nx Hb0.out.drew hbM)
  all_goals go_wp2_with fail
  all_goals go_ret
  all_goals exact ⟨_, rfl, Hd.out, Hb1.out⟩
set_option maxRecDepth 100000 in
set_option maxHeartbeats 3200000 in
theorem iturnB (k : Int) (A B C i : Nat) (w : World) (hA : A < 4) (hB : B < 4) (_ : C < 4) (hi : i < 16) :
    Calls Tryz.prog 105 #[(.agg #[.int .i64 ((Gt.mk k A B C)).k, .int .i64 ((Gt.mk k A B C)).a, .int .i64 ((Gt.mk k A B C)).b, .int .i64 ((Gt.mk k A B C)).c]), .int .i64 i] w fun e w' => ∃ v, e = .returned v ∧ contE.Sl w' w.heap.size v [(i, if (bitN i A && bitN i B) then dPh 4 else dPh 0)] ∧ Below w.heap.size w w' := by
  have HX := Lib.hid (heap_alloc_new w (.cells #[.int .i64 ((Gt.mk k A B C)).k, .int .i64 ((Gt.mk k A B C)).a, .int .i64 ((Gt.mk k A B C)).b, .int .i64 ((Gt.mk k A B C)).c] 44))
  obtain ⟨c0, c1, c2, c3⟩ := blk_cells HX.out
  have hS : G1 w w.heap.size (Gt.mk k A B C) (w.alloc (.cells #[.int .i64 ((Gt.mk k A B C)).k, .int .i64 ((Gt.mk k A B C)).a, .int .i64 ((Gt.mk k A B C)).b, .int .i64 ((Gt.mk k A B C)).c] 44)) := ⟨c0, c1, c2, c3, by simp, by go_grown⟩
  have Hb0 := Lib.hid (show Below w.heap.size w (w.alloc (.cells #[.int .i64 ((Gt.mk k A B C)).k, .int .i64 ((Gt.mk k A B C)).a, .int .i64 ((Gt.mk k A B C)).b, .int .i64 ((Gt.mk k A B C)).c] 44)) by go_grown)
  have Hba := Lib.hid (fun W => ibit (i := i) (q := A) hi hA rfl W)
  have Hbb := Lib.hid (fun W => ibit (i := i) (q := B) hi hB rfl W)
  have hk := bothW (bitN i A) (bitN i B)
  generalize (if (bitN i A && bitN i B) = true then dPh 4 else dPh 0) = P at *
  generalize bI (bitN i A) = ba at *
  generalize bI (bitN i B) = bb at *
  go_enter Tryz.func105, Tryz.ntmps105
  go_upto_region 1 with fail
  go_region_held3 (fun w' => w'.cell? ⟨w.heap.size, 0, none⟩ = some (.int .i64 k) ∧ w'.cell? ⟨w.heap.size, 1, none⟩ = some (.int .i64 (A : Int)) ∧ w'.cell? ⟨w.heap.size, 2, none⟩ = some (.int .i64 (B : Int)) ∧ w'.cell? ⟨w.heap.size, 3, none⟩ = some (.int .i64 (C : Int)) ∧ w.heap.size < w'.heap.size ∧ Below w.heap.size w w') (first | (show G1 w w.heap.size (Gt.mk k A B C) _; (with_reducible exact hS.drew)) | (show G1 w w.heap.size (Gt.mk k A B C) _; (with_reducible refine G1.below ?_ hbR); first | assumption | exact ⟨by assumption, by assumption, by assumption, by assumption, by assumption, by assumption⟩))
    (first | (go_at_call 128; refine (Hba.out _).mono ?_; rintro e wR ⟨rfl, rfl⟩) | (go_at_call 128; refine (Hbb.out _).mono ?_; rintro e wR ⟨rfl, rfl⟩) | (go_at_call 127; refine (imove (J := i) (P := P) (by first | assumption | rfl) (by first | assumption | rfl) _).mono ?_; rintro e wQ ⟨v, rfl, hd, hbM⟩; have HD := Lib.hid hd; have hbR := hbM))
  all_goals
    have Hd := Lib.hid (HD.out.mono (C := w.heap.size) (by simp))
    have Hb1 := Lib.hid (below_nx Hb0.out.drew hbM)
  all_goals go_wp2_with fail
  all_goals go_ret
  all_goals exact ⟨_, rfl, Hd.out, Hb1.out⟩
set_option maxRecDepth 100000 in
set_option maxHeartbeats 3200000 in
theorem iflipB (k : Int) (A B C i : Nat) (w : World) (hA : A < 4) (hB : B < 4) (hC : C < 4) (hi : i < 16) :
    Calls Tryz.prog 107 #[(.agg #[.int .i64 ((Gt.mk k A B C)).k, .int .i64 ((Gt.mk k A B C)).a, .int .i64 ((Gt.mk k A B C)).b, .int .i64 ((Gt.mk k A B C)).c]), .int .i64 i] w fun e w' => ∃ v, e = .returned v ∧ contE.Sl w' w.heap.size v [(if (bitN i A && bitN i B) then flipN i C else i, dPh 0)] ∧ Below w.heap.size w w' := by
  have HX := Lib.hid (heap_alloc_new w (.cells #[.int .i64 ((Gt.mk k A B C)).k, .int .i64 ((Gt.mk k A B C)).a, .int .i64 ((Gt.mk k A B C)).b, .int .i64 ((Gt.mk k A B C)).c] 44))
  obtain ⟨c0, c1, c2, c3⟩ := blk_cells HX.out
  have hS : G1 w w.heap.size (Gt.mk k A B C) (w.alloc (.cells #[.int .i64 ((Gt.mk k A B C)).k, .int .i64 ((Gt.mk k A B C)).a, .int .i64 ((Gt.mk k A B C)).b, .int .i64 ((Gt.mk k A B C)).c] 44)) := ⟨c0, c1, c2, c3, by simp, by go_grown⟩
  have Hb0 := Lib.hid (show Below w.heap.size w (w.alloc (.cells #[.int .i64 ((Gt.mk k A B C)).k, .int .i64 ((Gt.mk k A B C)).a, .int .i64 ((Gt.mk k A B C)).b, .int .i64 ((Gt.mk k A B C)).c] 44)) by go_grown)
  have Hba := Lib.hid (fun W => ibit (i := i) (q := A) hi hA rfl W)
  have Hbb := Lib.hid (fun W => ibit (i := i) (q := B) hi hB rfl W)
  have hx := ccW ⟨i, hi⟩ (bitN i A) (bitN i B) ⟨C, hC⟩
  generalize (if (bitN i A && bitN i B) = true then flipN i C else i) = j at *
  obtain ⟨P, hP⟩ : ∃ P, dPh 0 = P := ⟨_, rfl⟩
  rw [hP]
  generalize bI (bitN i A) = ba at *
  generalize bI (bitN i B) = bb at *
  go_enter Tryz.func107, Tryz.ntmps107
  go_upto_region 1 with fail
  go_region_held3 (fun w' => w'.cell? ⟨w.heap.size, 0, none⟩ = some (.int .i64 k) ∧ w'.cell? ⟨w.heap.size, 1, none⟩ = some (.int .i64 (A : Int)) ∧ w'.cell? ⟨w.heap.size, 2, none⟩ = some (.int .i64 (B : Int)) ∧ w'.cell? ⟨w.heap.size, 3, none⟩ = some (.int .i64 (C : Int)) ∧ w.heap.size < w'.heap.size ∧ Below w.heap.size w w') (first | (show G1 w w.heap.size (Gt.mk k A B C) _; (with_reducible exact hS.drew)) | (show G1 w w.heap.size (Gt.mk k A B C) _; (with_reducible refine G1.below ?_ hbR); first | assumption | exact ⟨by assumption, by assumption, by assumption, by assumption, by assumption, by assumption⟩))
    (first | (go_at_call 128; refine (Hba.out _).mono ?_; rintro e wR ⟨rfl, rfl⟩) | (go_at_call 128; refine (Hbb.out _).mono ?_; rintro e wR ⟨rfl, rfl⟩) | (go_at_call 127; refine (imove (J := j) (P := P) (by first | assumption | rfl) (by first | assumption | rfl) _).mono ?_; rintro e wQ ⟨v, rfl, hd, hbM⟩; have HD := Lib.hid hd; have hbR := hbM))
  all_goals
    have Hd := Lib.hid (HD.out.mono (C := w.heap.size) (by simp))
    have Hb1 := Lib.hid (below_nx Hb0.out.drew hbM)
  all_goals go_wp2_with fail
  all_goals go_ret
  all_goals exact ⟨_, rfl, Hd.out, Hb1.out⟩
end Go.Proofs.YtckfklpgnneodaaGreat
namespace Go.Proofs.YtckfklpgnneodaaGreat
open Go.RowKit
def G1u (w : World) (b : Nat) (g : Gt) (p : Nat) (u : Int) (w' : World) : Prop := w'.cell? ⟨b, 0, none⟩ = some (.int .i64 g.k) ∧ w'.cell? ⟨b, 1, none⟩ = some (.int .i64 g.a) ∧ w'.cell? ⟨b, 2, none⟩ = some (.int .i64 g.b) ∧ w'.cell? ⟨b, 3, none⟩ = some (.int .i64 g.c) ∧ w'.cell? ⟨p, 0, none⟩ = some (.int .i64 u) ∧ b < w'.heap.size ∧ p < w'.heap.size ∧ Below w.heap.size w w'
theorem G1u.drew {w w' : World} {b p : Nat} {g : Gt} {u : Int} (h : G1u w b g p u w') : G1u w b g p u w'.drew := let ⟨b0, b1, b2, b3, b4, z, y, l⟩ := h; ⟨b0, b1, b2, b3, b4, z, y, l.drew⟩
theorem G1u.below {w w1 w2 : World} {b p : Nat} {g : Gt} {u : Int} (h : G1u w b g p u w1) (hb : Below w1.heap.size w1 w2) : G1u w b g p u w2 :=
  let ⟨b0, b1, b2, b3, b4, z, y, l⟩ := h; ⟨cell_below b0 hb z, cell_below b1 hb z, cell_below b2 hb z, cell_below b3 hb z, cell_below b4 hb y, Nat.lt_of_lt_of_le z hb.size, Nat.lt_of_lt_of_le y hb.size, below_up l hb l.size⟩
attribute [local irreducible] World.cell?
set_option maxRecDepth 100000 in
set_option maxHeartbeats 3200000 in
theorem iturn1 (k : Int) (A B C i : Nat) (u : Int) (p : Nat) (Q : Dw) (w : World) (hA : A < 4) (_ : B < 4) (_ : C < 4) (hi : i < 16) (hp : w.heap[p]? = some (.cells #[.int .i64 u] 3 (0, 0))) (hQ : dPh (IntKind.i64.wrap (u * bI (bitN i A))) = Q) :
    Calls Tryz.prog 129 #[(.agg #[.int .i64 ((Gt.mk k A B C)).k, .int .i64 ((Gt.mk k A B C)).a, .int .i64 ((Gt.mk k A B C)).b, .int .i64 ((Gt.mk k A B C)).c]), .int .i64 i, .pointer (some ⟨p, 0, none⟩)] w fun e w' => ∃ v, e = .returned v ∧ contE.Sl w' w.heap.size v [(i, Q)] ∧ Below w.heap.size w w' := by
  have HX := Lib.hid (heap_alloc_new w (.cells #[.int .i64 ((Gt.mk k A B C)).k, .int .i64 ((Gt.mk k A B C)).a, .int .i64 ((Gt.mk k A B C)).b, .int .i64 ((Gt.mk k A B C)).c] 44))
  obtain ⟨c0, c1, c2, c3⟩ := blk_cells HX.out
  have c4 := cell_at (alloc_blk (.cells #[.int .i64 ((Gt.mk k A B C)).k, .int .i64 ((Gt.mk k A B C)).a, .int .i64 ((Gt.mk k A B C)).b, .int .i64 ((Gt.mk k A B C)).c] 44) hp) 0 _ rfl
  have hpl := lt_of_block (alloc_blk (.cells #[.int .i64 ((Gt.mk k A B C)).k, .int .i64 ((Gt.mk k A B C)).a, .int .i64 ((Gt.mk k A B C)).b, .int .i64 ((Gt.mk k A B C)).c] 44) hp)
  have hS : G1u w w.heap.size (Gt.mk k A B C) p u (w.alloc (.cells #[.int .i64 ((Gt.mk k A B C)).k, .int .i64 ((Gt.mk k A B C)).a, .int .i64 ((Gt.mk k A B C)).b, .int .i64 ((Gt.mk k A B C)).c] 44)) := ⟨c0, c1, c2, c3, c4, by simp, hpl, by go_grown⟩
  have Hb0 := Lib.hid (show Below w.heap.size w (w.alloc (.cells #[.int .i64 ((Gt.mk k A B C)).k, .int .i64 ((Gt.mk k A B C)).a, .int .i64 ((Gt.mk k A B C)).b, .int .i64 ((Gt.mk k A B C)).c] 44)) by go_grown)
  have Hba := Lib.hid (fun W => ibit (i := i) (q := A) hi hA rfl W)
  clear hp
  generalize bI (bitN i A) = ba at *
  go_enter Tryz.func129, Tryz.ntmps129
  go_upto_region 1 with fail
  go_region_held3 (fun w' => w'.cell? ⟨w.heap.size, 0, none⟩ = some (.int .i64 k) ∧ w'.cell? ⟨w.heap.size, 1, none⟩ = some (.int .i64 (A : Int)) ∧ w'.cell? ⟨w.heap.size, 2, none⟩ = some (.int .i64 (B : Int)) ∧ w'.cell? ⟨w.heap.size, 3, none⟩ = some (.int .i64 (C : Int)) ∧ w'.cell? ⟨p, 0, none⟩ = some (.int .i64 u) ∧ w.heap.size < w'.heap.size ∧ p < w'.heap.size ∧ Below w.heap.size w w') (first | (show G1u w w.heap.size (Gt.mk k A B C) p u _; (with_reducible exact hS.drew)) | (show G1u w w.heap.size (Gt.mk k A B C) p u _; (with_reducible refine G1u.below ?_ hbR); first | assumption | exact ⟨by assumption, by assumption, by assumption, by assumption, by assumption, by assumption, by assumption, by assumption⟩))
    (first | (go_at_call 128; refine (Hba.out _).mono ?_; rintro e wR ⟨rfl, rfl⟩) | (go_at_call 127; refine (imove (J := i) (P := Q) (by first | assumption | rfl) (by first | assumption | rfl) _).mono ?_; rintro e wQ ⟨v, rfl, hd, hbM⟩; have HD := Lib.hid hd; have hbR := hbM))
  all_goals
    have Hd := Lib.hid (HD.out.mono (C := w.heap.size) (by simp))
    have Hb1 := Lib.hid (below_nx Hb0.out.drew hbM)
  all_goals go_wp2_with fail
  all_goals go_ret
  all_goals exact ⟨_, rfl, Hd.out, Hb1.out⟩
set_option maxRecDepth 100000 in
set_option maxHeartbeats 3200000 in
theorem iexch (k : Int) (A B C i : Nat) (w : World) (hA : A < 4) (hB : B < 4) (_ : C < 4) (hi : i < 16) :
    Calls Tryz.prog 106 #[(.agg #[.int .i64 ((Gt.mk k A B C)).k, .int .i64 ((Gt.mk k A B C)).a, .int .i64 ((Gt.mk k A B C)).b, .int .i64 ((Gt.mk k A B C)).c]), .int .i64 i] w fun e w' => ∃ v, e = .returned v ∧ contE.Sl w' w.heap.size v [(if bitN i A != bitN i B then flipN (flipN i A) B else i, dPh 0)] ∧ Below w.heap.size w w' := by
  have HX := Lib.hid (heap_alloc_new w (.cells #[.int .i64 ((Gt.mk k A B C)).k, .int .i64 ((Gt.mk k A B C)).a, .int .i64 ((Gt.mk k A B C)).b, .int .i64 ((Gt.mk k A B C)).c] 44))
  obtain ⟨c0, c1, c2, c3⟩ := blk_cells HX.out
  have hS : G1 w w.heap.size (Gt.mk k A B C) (w.alloc (.cells #[.int .i64 ((Gt.mk k A B C)).k, .int .i64 ((Gt.mk k A B C)).a, .int .i64 ((Gt.mk k A B C)).b, .int .i64 ((Gt.mk k A B C)).c] 44)) := ⟨c0, c1, c2, c3, by simp, by go_grown⟩
  have Hb0 := Lib.hid (show Below w.heap.size w (w.alloc (.cells #[.int .i64 ((Gt.mk k A B C)).k, .int .i64 ((Gt.mk k A B C)).a, .int .i64 ((Gt.mk k A B C)).b, .int .i64 ((Gt.mk k A B C)).c] 44)) by go_grown)
  have Hba := Lib.hid (fun W => ibit (i := i) (q := A) hi hA rfl W)
  have Hbb := Lib.hid (fun W => ibit (i := i) (q := B) hi hB rfl W)
  have hx := exW ⟨i, hi⟩ (bitN i A) (bitN i B) ⟨A, hA⟩ ⟨B, hB⟩
  generalize (if (bitN i A != bitN i B) = true then flipN (flipN i A) B else i) = j at *
  obtain ⟨P, hP⟩ : ∃ P, dPh 0 = P := ⟨_, rfl⟩
  rw [hP]
  generalize bI (bitN i A) = ba at *
  generalize bI (bitN i B) = bb at *
  go_enter Tryz.func106, Tryz.ntmps106
  go_upto_region 1 with fail
  go_region_held3 (fun w' => w'.cell? ⟨w.heap.size, 0, none⟩ = some (.int .i64 k) ∧ w'.cell? ⟨w.heap.size, 1, none⟩ = some (.int .i64 (A : Int)) ∧ w'.cell? ⟨w.heap.size, 2, none⟩ = some (.int .i64 (B : Int)) ∧ w'.cell? ⟨w.heap.size, 3, none⟩ = some (.int .i64 (C : Int)) ∧ w.heap.size < w'.heap.size ∧ Below w.heap.size w w') (first | (show G1 w w.heap.size (Gt.mk k A B C) _; (with_reducible exact hS.drew)) | (show G1 w w.heap.size (Gt.mk k A B C) _; (with_reducible refine G1.below ?_ hbR); first | assumption | exact ⟨by assumption, by assumption, by assumption, by assumption, by assumption, by assumption⟩))
    (first | (go_at_call 128; refine (Hba.out _).mono ?_; rintro e wR ⟨rfl, rfl⟩) | (go_at_call 128; refine (Hbb.out _).mono ?_; rintro e wR ⟨rfl, rfl⟩))
  have hS := hS.drew
  go_upto_region 2 with fail
  go_region_held3 (fun w' => w'.cell? ⟨w.heap.size, 0, none⟩ = some (.int .i64 k) ∧ w'.cell? ⟨w.heap.size, 1, none⟩ = some (.int .i64 (A : Int)) ∧ w'.cell? ⟨w.heap.size, 2, none⟩ = some (.int .i64 (B : Int)) ∧ w'.cell? ⟨w.heap.size, 3, none⟩ = some (.int .i64 (C : Int)) ∧ w.heap.size < w'.heap.size ∧ Below w.heap.size w w') (first | (show G1 w w.heap.size (Gt.mk k A B C) _; (with_reducible exact hS.drew)) | (show G1 w w.heap.size (Gt.mk k A B C) _; (with_reducible refine G1.below ?_ hbR); first | assumption | exact ⟨by assumption, by assumption, by assumption, by assumption, by assumption, by assumption⟩))
    (first | (go_at_call 127; refine (imove (J := j) (P := P) (by first | assumption | rfl) (by first | assumption | rfl) _).mono ?_; rintro e wQ ⟨v, rfl, hd, hbM⟩; have HD := Lib.hid hd; have hbR := hbM))
  all_goals
    have Hd := Lib.hid (HD.out.mono (C := w.heap.size) (by simp))
    have Hb1 := Lib.hid (below_nx Hb0.out.drew.drew hbM)
  all_goals go_wp2_with fail
  all_goals go_ret
  all_goals exact ⟨_, rfl, Hd.out, Hb1.out⟩
end Go.Proofs.YtckfklpgnneodaaGreat
