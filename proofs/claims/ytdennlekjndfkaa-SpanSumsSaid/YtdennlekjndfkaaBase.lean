/- How a slice of spans lies in memory, and small facts on worlds. -/
import Derived.Test.YtdennlekjndfkaaRows
import Derived.Test.YtdennlekjndfkaaMath
import Derived.WalkKit
import Derived.WalkSpells
import Derived.WalkLawsBesides
import Derived.Handy
namespace Go.Proofs.Ytdennlekjndfkaa
open Go.RowKit

theorem ret_int {a b : Int} (h : a = b) : Ending.returned (.int .i64 a) = .returned (.int .i64 b) := by rw [h]
theorem ret_bool {a b : Bool} (h : a = b) : Ending.returned (.bool a) = .returned (.bool b) := by rw [h]

/-- A span as a value, and as two cells. -/
def vSp (s : Sp) : Value := .agg #[.int .i64 s.1, .int .i64 s.2]
/-- Both numbers of a span fit an int. -/
def FitSp (s : Sp) : Prop := (-9223372036854775808 ≤ s.1 ∧ s.1 ≤ 9223372036854775807) ∧ (-9223372036854775808 ≤ s.2 ∧ s.2 ≤ 9223372036854775807)

/-- The slice value v reads as the list l; its cells lie in a block from B on. -/
structure SpAt (w : World) (B : Nat) (p : Option Addr) (l : List Sp) : Prop where
  fit : ∀ s ∈ l, FitSp s
  len : l.length ≤ 8796093022207
  at' : l ≠ [] → ∃ b off, p = some ⟨b, off, none⟩ ∧ B ≤ b ∧ b < w.heap.size ∧
    ∀ i (h : i < l.length), w.cell? ⟨b, off + i * 2, none⟩ = some (.int .i64 l[i].1) ∧ w.cell? ⟨b, off + i * 2 + 1, none⟩ = some (.int .i64 l[i].2)

theorem SpAt.nil {w : World} {B : Nat} {p : Option Addr} : SpAt w B p [] := ⟨by simp, by simp, fun h => absurd rfl h⟩
theorem SpAt.mono {w : World} {B B' : Nat} {p : Option Addr} {l : List Sp} (h : SpAt w B p l) (hB : B' ≤ B) : SpAt w B' p l :=
  ⟨h.fit, h.len, fun hl => by obtain ⟨b, off, h1, h2, h3, h4⟩ := h.at' hl; exact ⟨b, off, h1, by omega, h3, h4⟩⟩
theorem SpAt.below {w w' : World} {B : Nat} {p : Option Addr} {l : List Sp} (h : SpAt w B p l) (hb : Below w.heap.size w w') : SpAt w' B p l :=
  ⟨h.fit, h.len, fun hl => by
    obtain ⟨b, off, h1, h2, h3, h4⟩ := h.at' hl
    exact ⟨b, off, h1, h2, Nat.lt_of_lt_of_le h3 hb.size, fun i hi => ⟨(hb.cell (p := ⟨b, _, none⟩) h3).trans (h4 i hi).1, (hb.cell (p := ⟨b, _, none⟩) h3).trans (h4 i hi).2⟩⟩⟩

end Go.Proofs.Ytdennlekjndfkaa
