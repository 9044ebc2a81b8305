/- How a value of the layer, and a row of bytes, lie in memory. -/
import Derived.Test.YtopkpdaingmmeaaRows
import Derived.Test.YtopkpdaingmmeaaVMath
import Derived.WalkKit
import Derived.WalkSpells
import Derived.WalkLawsBesides
import Derived.Handy
namespace Go.Proofs.Ytopkpdaingmmeaa
open Go.RowKit

theorem ret_int {a b : Int} (h : a = b) : Ending.returned (.int .i64 a) = .returned (.int .i64 b) := by rw [h]
theorem ret_u64 {a b : Int} (h : a = b) : Ending.returned (.int .u64 a) = .returned (.int .u64 b) := by rw [h]
theorem ret_bool {a b : Bool} (h : a = b) : Ending.returned (.bool a) = .returned (.bool b) := by rw [h]

theorem V.eta (v : V) : V.mk v.k v.n v.s v.l = v := by cases v; rfl
theorem rank_l (v : V) (i : Nat) (h : i < v.l.length) : rank v.l[i] < rank v := by
  obtain ⟨k, n, s, l⟩ := v
  exact rank_lt k n s l _ (List.getElem_mem h)

/-- A value as Go has it: the four fields; its list lies at p. -/
def vV (v : V) (p : Option Addr) (cap : Nat) : Value := .agg #[.int .i64 v.k, .int .i64 v.n, .string v.s, .slice p v.l.length cap]

/-- The value v, whose list is the slice at p with room cap, lies in memory: its lists in blocks from B on. -/
inductive VAt (w : World) (B : Nat) : V → Option Addr → Nat → Prop
  | mk (k n : Int) (s : ByteArray) (l : List V) (p : Option Addr) (cap b off : Nat) (P : Nat → Option Addr) (C : Nat → Nat)
      (hk : Fit64 k) (hn : Fit64 n) (hs : s.size ≤ 140737488351232) (hl : l.length ≤ 2600000000000) (hc : l.length ≤ cap) (hc2 : cap ≤ 9223372036854775807) (hp : p = none → cap = 0)
      (hb : l ≠ [] → p = some ⟨b, off, none⟩ ∧ B ≤ b ∧ b < w.heap.size)
      (hcell : ∀ i (h : i < l.length), w.cell? ⟨b, off + i * 4, none⟩ = some (.int .i64 l[i].k) ∧ w.cell? ⟨b, off + i * 4 + 1, none⟩ = some (.int .i64 l[i].n) ∧
        w.cell? ⟨b, off + i * 4 + 2, none⟩ = some (.string l[i].s) ∧ w.cell? ⟨b, off + i * 4 + 3, none⟩ = some (.slice (P i) l[i].l.length (C i)))
      (hsub : ∀ i (h : i < l.length), VAt w B l[i] (P i) (C i)) : VAt w B (.mk k n s l) p cap

theorem VAt.fitK {w : World} {B : Nat} {v : V} {p : Option Addr} {cap : Nat} (h : VAt w B v p cap) : Fit64 v.k := by cases h; assumption
theorem VAt.fitN {w : World} {B : Nat} {v : V} {p : Option Addr} {cap : Nat} (h : VAt w B v p cap) : Fit64 v.n := by cases h; assumption
theorem VAt.sizeS {w : World} {B : Nat} {v : V} {p : Option Addr} {cap : Nat} (h : VAt w B v p cap) : v.s.size ≤ 140737488351232 := by cases h; assumption
theorem VAt.len {w : World} {B : Nat} {v : V} {p : Option Addr} {cap : Nat} (h : VAt w B v p cap) : v.l.length ≤ 2600000000000 := by cases h; assumption
theorem VAt.room {w : World} {B : Nat} {v : V} {p : Option Addr} {cap : Nat} (h : VAt w B v p cap) : v.l.length ≤ cap := by cases h; assumption
theorem VAt.cap_le {w : World} {B : Nat} {v : V} {p : Option Addr} {cap : Nat} (h : VAt w B v p cap) : cap ≤ 9223372036854775807 := by cases h; assumption
theorem VAt.noRow {w : World} {B : Nat} {v : V} {p : Option Addr} {cap : Nat} (h : VAt w B v p cap) : p = none → cap = 0 := by cases h; assumption

/-- The list of a value: where its elements lie. -/
theorem VAt.cells {w : World} {B : Nat} {v : V} {p : Option Addr} {cap : Nat} (h : VAt w B v p cap) (hne : v.l ≠ []) :
    ∃ (b off : Nat) (P : Nat → Option Addr) (C : Nat → Nat), p = some ⟨b, off, none⟩ ∧ B ≤ b ∧ b < w.heap.size ∧ ∀ i (h : i < v.l.length),
      w.cell? ⟨b, off + i * 4, none⟩ = some (.int .i64 v.l[i].k) ∧ w.cell? ⟨b, off + i * 4 + 1, none⟩ = some (.int .i64 v.l[i].n) ∧
        w.cell? ⟨b, off + i * 4 + 2, none⟩ = some (.string v.l[i].s) ∧ w.cell? ⟨b, off + i * 4 + 3, none⟩ = some (.slice (P i) v.l[i].l.length (C i)) ∧ VAt w B v.l[i] (P i) (C i) := by
  cases h with
  | mk k n s l p cap b off P C hk hn hs hl hc hc2 hp hb hcell hsub =>
    obtain ⟨h1, h2, h3⟩ := hb hne
    exact ⟨b, off, P, C, h1, h2, h3, fun i hi => ⟨(hcell i hi).1, (hcell i hi).2.1, (hcell i hi).2.2.1, (hcell i hi).2.2.2, hsub i hi⟩⟩

theorem VAt.leaf {w : World} {B : Nat} {k n : Int} {s : ByteArray} (hk : Fit64 k) (hn : Fit64 n) (hs : s.size ≤ 140737488351232) {p : Option Addr} {cap : Nat} (hp : p = none → cap = 0) (hc : cap ≤ 9223372036854775807) : VAt w B (.mk k n s []) p cap :=
  .mk k n s [] p cap 0 0 (fun _ => none) (fun _ => 0) hk hn hs (by simp) (by simp) hc hp (fun h => absurd rfl h) (fun i h => by simp at h) (fun i h => by simp at h)

theorem VAt.bel {w w' : World} {B : Nat} {v : V} {p : Option Addr} {cap : Nat} (h : VAt w B v p cap) (hb : Below w.heap.size w w') : VAt w' B v p cap := by
  induction h with
  | mk k n s l p cap b off P C hk hn hs hl hc hc2 hp hbb hcell hsub ih =>
    refine .mk k n s l p cap b off P C hk hn hs hl hc hc2 hp (fun hne => ⟨(hbb hne).1, (hbb hne).2.1, Nat.lt_of_lt_of_le (hbb hne).2.2 hb.size⟩) (fun i hi => ?_) ih
    have h3 := (hbb (by rintro rfl; simp at hi)).2.2
    obtain ⟨c1, c2, c3, c4⟩ := hcell i hi
    exact ⟨(hb.cell (p := ⟨b, _, none⟩) h3).trans c1, (hb.cell (p := ⟨b, _, none⟩) h3).trans c2, (hb.cell (p := ⟨b, _, none⟩) h3).trans c3, (hb.cell (p := ⟨b, _, none⟩) h3).trans c4⟩
theorem VAt.mono {w : World} {B B' : Nat} {v : V} {p : Option Addr} {cap : Nat} (h : VAt w B v p cap) (hB : B' ≤ B) : VAt w B' v p cap := by
  induction h with
  | mk k n s l p cap b off P C hk hn hs hl hc hc2 hp hbb hcell hsub ih =>
    exact .mk k n s l p cap b off P C hk hn hs hl hc hc2 hp (fun hne => ⟨(hbb hne).1, Nat.le_trans hB (hbb hne).2.1, (hbb hne).2.2⟩) hcell ih

/-- A list of values alone: the list of a value of no kind. -/
def LAt (w : World) (B : Nat) (l : List V) (p : Option Addr) (cap : Nat) : Prop := VAt w B (.mk 0 0 ⟨#[]⟩ l) p cap
theorem VAt.list {w : World} {B : Nat} {v : V} {p : Option Addr} {cap : Nat} (h : VAt w B v p cap) : LAt w B v.l p cap := by
  cases h with
  | mk k n s l p cap b off P C hk hn hs hl hc hc2 hp hb hcell hsub =>
    exact .mk 0 0 _ l p cap b off P C ⟨by decide, by decide⟩ ⟨by decide, by decide⟩ (by decide) hl hc hc2 hp hb hcell hsub
theorem LAt.value {w : World} {B : Nat} {l : List V} {p : Option Addr} {cap : Nat} (h : LAt w B l p cap) {k n : Int} {s : ByteArray} (hk : Fit64 k) (hn : Fit64 n) (hs : s.size ≤ 140737488351232) : VAt w B (.mk k n s l) p cap := by
  cases h with
  | mk k' n' s' l p cap b off P C _ _ _ hl hc hc2 hp hb hcell hsub =>
    exact .mk k n s l p cap b off P C hk hn hs hl hc hc2 hp hb hcell hsub
/-- An element of a list of values, in a later world. -/
theorem LAt.elem {w wr : World} {B : Nat} {l : List V} {p : Option Addr} {cap : Nat} (h : LAt w B l p cap) (hb : Below w.heap.size w wr) (i : Nat) (hi : i < l.length) :
    ∃ (b off : Nat) (q : Option Addr) (c : Nat), p = some ⟨b, off, none⟩ ∧ b < wr.heap.size ∧ wr.cell? ⟨b, off + i * 4, none⟩ = some (.int .i64 l[i].k) ∧ wr.cell? ⟨b, off + i * 4 + 1, none⟩ = some (.int .i64 l[i].n) ∧
      wr.cell? ⟨b, off + i * 4 + 2, none⟩ = some (.string l[i].s) ∧ wr.cell? ⟨b, off + i * 4 + 3, none⟩ = some (.slice q l[i].l.length c) ∧ VAt wr B l[i] q c := by
  obtain ⟨b, off, P, C, h1, _, h2, h3⟩ := (VAt.bel h hb).cells (by show l ≠ []; rintro rfl; simp at hi)
  exact ⟨b, off, P i, C i, h1, h2, h3 i hi⟩

/-- A value's four cells in a block of their own. -/
structure Box (w : World) (b : Nat) (k n : Int) (s : ByteArray) (sl : Value) : Prop where
  lt : b < w.heap.size
  c0 : w.cell? ⟨b, 0, none⟩ = some (.int .i64 k)
  c1 : w.cell? ⟨b, 1, none⟩ = some (.int .i64 n)
  c2 : w.cell? ⟨b, 2, none⟩ = some (.string s)
  c3 : w.cell? ⟨b, 3, none⟩ = some sl
theorem Box.new (w : World) (k n : Int) (s : ByteArray) (sl : Value) : Box (w.alloc (.cells #[.int .i64 k, .int .i64 n, .string s, sl] 24)) w.heap.size k n s sl := by
  constructor <;> simp [go_sem]
theorem Box.bel {w w' : World} {b : Nat} {k n : Int} {s : ByteArray} {sl : Value} (h : Box w b k n s sl) {m : Nat} (hb : Below m w w') (hm : b < m) : Box w' b k n s sl :=
  ⟨Nat.lt_of_lt_of_le h.lt hb.size, (hb.cell (p := ⟨b, _, none⟩) hm).trans h.c0, (hb.cell (p := ⟨b, _, none⟩) hm).trans h.c1, (hb.cell (p := ⟨b, _, none⟩) hm).trans h.c2, (hb.cell (p := ⟨b, _, none⟩) hm).trans h.c3⟩

/-- A row of bytes lies in memory, its block from B on. -/
structure BAt (w : World) (B : Nat) (p : Option Addr) (l : List UInt8) : Prop where
  len : l.length ≤ 140737488351232
  at' : l ≠ [] → ∃ b off, p = some ⟨b, off, none⟩ ∧ B ≤ b ∧ b < w.heap.size ∧ ∀ i (h : i < l.length), w.cell? ⟨b, off + i, none⟩ = some (.int .u8 l[i].toNat)
theorem BAt.nil {w : World} {B : Nat} {p : Option Addr} : BAt w B p [] := ⟨by simp, fun h => absurd rfl h⟩
theorem BAt.mono {w : World} {B B' : Nat} {p : Option Addr} {l : List UInt8} (h : BAt w B p l) (hB : B' ≤ B) : BAt w B' p l :=
  ⟨h.len, fun hl => by obtain ⟨b, off, h1, h2, h3, h4⟩ := h.at' hl; exact ⟨b, off, h1, by omega, h3, h4⟩⟩
theorem BAt.below {w w' : World} {B : Nat} {p : Option Addr} {l : List UInt8} (h : BAt w B p l) (hb : Below w.heap.size w w') : BAt w' B p l :=
  ⟨h.len, fun hl => by
    obtain ⟨b, off, h1, h2, h3, h4⟩ := h.at' hl
    exact ⟨b, off, h1, h2, Nat.lt_of_lt_of_le h3 hb.size, fun i hi => (hb.cell (p := ⟨b, _, none⟩) h3).trans (h4 i hi)⟩⟩
end Go.Proofs.Ytopkpdaingmmeaa
