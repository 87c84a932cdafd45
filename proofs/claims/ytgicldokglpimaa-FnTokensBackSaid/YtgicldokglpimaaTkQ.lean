/- Tokens in memory: two cells each; strings as lists of bytes. -/
import Derived.Test.YtgicldokglpimaaTkP
import Derived.Test.YtgicldokglpimaaBaseB22
namespace Go.Proofs.Ytgicldokglpimaa
open Go.RowKit
/-- A string's bytes; a list's string. -/
def bs (T : ByteArray) : List UInt8 := T.data.toList
def sb (l : List UInt8) : ByteArray := ⟨l.toArray⟩
theorem sb_bs (T : ByteArray) : sb (bs T) = T := by apply ByteArray.ext; simp [sb, bs]
theorem bs_sb (l : List UInt8) : bs (sb l) = l := by simp [sb, bs]
theorem bs_len (T : ByteArray) : (bs T).length = T.size := by simp [bs]
theorem sb_size (l : List UInt8) : (sb l).size = l.length := by simp [sb, ByteArray.size]
theorem sb_app (a b : List UInt8) : sb a ++ sb b = sb (a ++ b) := by apply ByteArray.ext; simp [sb]
theorem sb_inj {a b : List UInt8} (h : sb a = sb b) : a = b := by rw [← bs_sb a, h, bs_sb]
theorem bs_at {T : ByteArray} {j : Nat} (h : j < T.size) : (bs T)[j]? = some (T[j]) := by
  rw [List.getElem?_eq_getElem (by rw [bs_len]; exact h)]
  simp [bs, ByteArray.getElem_eq_getElem_data]
/-- Tokens, two cells each. -/
def tkE : Enc Tk := ⟨fun t => [.int .i64 t.k, .string (sb t.s)], 2, 31, fun _ => rfl, fun x u h => by simp at h; rcases h with rfl | rfl <;> rfl⟩
theorem TRow.cells {w : World} {g : Nat} {l : List Tk} (h : tkE.Row w g l) {j : Nat} {x : Tk} (hx : l[j]? = some x) :
    w.cell? ⟨g, j * 2, none⟩ = some (.int .i64 x.k) ∧ w.cell? ⟨g, j * 2 + 1, none⟩ = some (.string (sb x.s)) := by
  have h0 := h.at hx (k := 0) (v := .int .i64 x.k) rfl
  have h1 := h.at hx (k := 1) (v := .string (sb x.s)) rfl
  exact ⟨h0, h1⟩
theorem infoTk : (Try.prog.info? 31).map (fun i => (i.zero, i.size, i.bytes)) = some (some (.agg #[.int .i64 0, .string ⟨#[]⟩]), 2, 24) := by kernel_rfl
end Go.Proofs.Ytgicldokglpimaa
