/- What a loop over an iterator keeps: every cell but the collecting variable's box and its row. -/
import Derived.RangeFuncNested
import Derived.RangeFuncBound
import Derived.RangeFuncCalls
import Derived.RangeFuncLeaves
import Derived.RangeFuncBox
import Derived.Shelf.Abstract
import Derived.Shelf.RegionOpen
import Derived.WalkKit
import Derived.OwnWalkIn
import Derived.TacticsInMore
import Derived.LoopNIn
import Derived.LoopIn
import Derived.Test.YtdennlekjndfkaaOwn
import Derived.Lib.Hide
namespace Go.Proofs.Ytdennlekjndfkaa
open Go.RowKit

/-- The block of the row of the slice that lies in box Bl. -/
def rb (Bl : Nat) (W : World) : Nat := match W.cell? ⟨Bl, 0, none⟩ with | some (.slice (some a) _ _) => a.block | _ => Bl
theorem rb_cell {Bl : Nat} {W W' : World} (h : W'.cell? ⟨Bl, 0, none⟩ = W.cell? ⟨Bl, 0, none⟩) : rb Bl W' = rb Bl W := by unfold rb; rw [h]

/-- A round keeps all cells but those of the collecting box Bl and of its row; a row that is another one is new. -/
structure Kp (Bl : Nat) (W W' : World) : Prop where
  size : W.heap.size ≤ W'.heap.size
  cell : ∀ b o v, b ≠ Bl → b ≠ rb Bl W → W.cell? ⟨b, o, none⟩ = some v → W'.cell? ⟨b, o, none⟩ = some v
  rbk : rb Bl W' = rb Bl W ∨ W.heap.size ≤ rb Bl W'
theorem Kp.trans {Bl : Nat} {A B C : World} (h : Kp Bl A B) (k : Kp Bl B C) : Kp Bl A C := by
  refine ⟨Nat.le_trans h.size k.size, fun b o v h1 h2 hc => k.cell b o v h1 ?_ (h.cell b o v h1 h2 hc), ?_⟩
  · have hlt : b < A.heap.size := World.block_lt_of_cell? _ ⟨b, o, none⟩ hc
    rcases h.rbk with e | e
    · rw [e]; exact h2
    · omega
  · have h1 := h.rbk
    have h2 := k.rbk
    have h3 := h.size
    omega
theorem Kp.of_below {Bl : Nat} {W W' : World} (h : Below W.heap.size W W') (hBl : Bl < W.heap.size) : Kp Bl W W' :=
  ⟨h.size, fun b o v _ _ hc => (h.cell (p := ⟨b, o, none⟩) (World.block_lt_of_cell? _ ⟨b, o, none⟩ hc)).trans hc, .inl (rb_cell (h.cell (p := ⟨Bl, 0, none⟩) hBl))⟩
theorem Kp.put {Bl base : Nat} (hBl : Bl < base) (W : World) (l : Nat) (o o' : Obj) (hl : base ≤ l) (ho : W.heap[l]? = some o) (hc : o.isCells = false) (_ : o.isWalk = false) : Kp Bl W (W.putObj l o') := by
  have key : ∀ b, b ≠ l → ∀ i, (W.putObj l o').cell? ⟨b, i, none⟩ = W.cell? ⟨b, i, none⟩ := fun b hb i => World.cell?_of_block (a := ⟨b, i, none⟩) (World.putObj_heap_other hb)
  refine ⟨(grownBy_putObj' W l o').size, fun b i v _ _ hv => ?_, .inl (rb_cell (key Bl (by omega) 0))⟩
  rw [key b ?_ i]; exact hv
  rintro rfl
  simp only [World.cell?] at hv
  rw [ho] at hv
  cases o <;> simp_all [Obj.isCells]

/-- Block b is neither the collecting box nor its row. -/
def Safe (Bl : Nat) (W : World) (b : Nat) : Prop := b < W.heap.size ∧ b ≠ Bl ∧ b ≠ rb Bl W
theorem Safe.kp {Bl b : Nat} {W W' : World} (h : Safe Bl W b) (k : Kp Bl W W') : Safe Bl W' b := by
  obtain ⟨h1, h2, h3⟩ := h
  have := k.rbk
  have := k.size
  exact ⟨by omega, h2, by omega⟩
/-- The list zs can be read, whatever the rounds do. -/
structure Rd (Bl : Nat) (W : World) (p : Option Addr) (zs : List Sp) : Prop where
  at' : SpAt W 0 p zs
  safe : zs ≠ [] → ∀ a, p = some a → Safe Bl W a.block
  bl : Bl < W.heap.size
theorem Rd.kp {Bl : Nat} {W W' : World} {p : Option Addr} {zs : List Sp} (h : Rd Bl W p zs) (k : Kp Bl W W') : Rd Bl W' p zs := by
  refine ⟨⟨h.at'.fit, h.at'.len, fun hne => ?_⟩, fun hne a ha => (h.safe hne a ha).kp k, Nat.lt_of_lt_of_le h.bl k.size⟩
  obtain ⟨b, off, h1, h2, h3, h4⟩ := h.at'.at' hne
  obtain ⟨s1, s2, s3⟩ := h.safe hne _ h1
  exact ⟨b, off, h1, h2, Nat.lt_of_lt_of_le h3 k.size, fun i hi => ⟨k.cell b _ _ s2 s3 (h4 i hi).1, k.cell b _ _ s2 s3 (h4 i hi).2⟩⟩
theorem Rd.below {Bl : Nat} {W W' : World} {p : Option Addr} {zs : List Sp} (h : Rd Bl W p zs) (k : Below W.heap.size W W') : Rd Bl W' p zs := h.kp (Kp.of_below k h.bl)

theorem grownBy_of_below {W W' : World} (h : Below W.heap.size W W') : W.grownBy W' none := ⟨h.os, h.tape, h.output, h.size, fun k hk _ => h.block k hk⟩
theorem abides_below {B : Nat} {J : List Sp → World → Prop} (hJ : AbidesFrom B J) {s : List Sp} {W W' : World} (h : J s W) (hb : Below W.heap.size W W') : J s W' :=
  hJ s W W' none h (grownBy_of_below hb) (fun r e => by cases e)
end Go.Proofs.Ytdennlekjndfkaa
