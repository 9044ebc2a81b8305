/- What changes and what stays; texts. -/
import Derived.Test.YtabdgnigmlpeaaaGreatDoorProg
import Derived.Test.YtabdgnigmlpeaaaGreatDoorTMath2
import Derived.WalkKit
import Derived.WalkSpells
import Derived.WalkLawsBesides
import Derived.Handy
import Derived.Lib.Hide
namespace Go.Proofs.YtabdgnigmlpeaaaGreatDoor
open Go.RowKit

theorem ret_int {a b : Int} (h : a = b) : Ending.returned (.int .i64 a) = .returned (.int .i64 b) := by rw [h]
theorem ret_bool {a b : Bool} (h : a = b) : Ending.returned (.bool a) = .returned (.bool b) := by rw [h]
abbrev Bs := List UInt8
/-- The text of a list of bytes. -/
def S (l : Bs) : ByteArray := ⟨l.toArray⟩
theorem S_list (s : ByteArray) : S s.data.toList = s := rfl
theorem S_data (l : Bs) : (S l).data.toList = l := by simp [S]
theorem S_size (l : Bs) : (S l).size = l.length := by simp [S, ByteArray.size]
theorem S_toList (l : Bs) : (S l).toList = l := by rw [ByteArray.toList_eq, S_data]

/-- What a call does that may turn the block pb, and nothing else that was there. -/
structure Kp (w w' : World) (pb : Nat) : Prop where
  os : w'.os = w.os
  tape : w'.tape = w.tape
  output : w'.output = w.output
  size : w.heap.size ≤ w'.heap.size
  block : ∀ k, k < w.heap.size → k ≠ pb → w'.heap[k]? = w.heap[k]?
theorem Kp.refl (w : World) (sb : Nat) : Kp w w sb := ⟨rfl, rfl, rfl, Nat.le_refl _, fun _ _ _ => rfl⟩
theorem Kp.trans {w w1 w2 : World} {sb : Nat} (h : Kp w w1 sb) (h1 : Kp w1 w2 sb) : Kp w w2 sb :=
  ⟨h1.os.trans h.os, h1.tape.trans h.tape, h1.output.trans h.output, Nat.le_trans h.size h1.size, fun k hk hne => (h1.block k (Nat.lt_of_lt_of_le hk h.size) hne).trans (h.block k hk hne)⟩
theorem Kp.ofBelow {w w' : World} {sb m : Nat} (hb : Below m w w') (hm : w.heap.size ≤ m) : Kp w w' sb := ⟨hb.os, hb.tape, hb.output, hb.size, fun k hk _ => hb.block k (by omega)⟩
theorem Kp.below {w w' : World} {sb : Nat} (h : Kp w w' sb) {m : Nat} (hm : m ≤ sb) (hs : m ≤ w.heap.size) : Below m w w' := ⟨h.os, h.tape, h.output, h.size, fun k hk => h.block k (by omega) (by omega)⟩
theorem Kp.own (w : World) (b o : Nat) (v : Value) : Kp w (w.setCell ⟨b, o, none⟩ v) b := ⟨rfl, rfl, rfl, by simp, fun _ _ hne => heap_setCell_other _ _ _ _ hne⟩
theorem kp_cell {w w' : World} {pb b o : Nat} {v : Value} (hk : Kp w w' pb) (hb : b < w.heap.size) (hne : b ≠ pb) (h : w.cell? ⟨b, o, none⟩ = some v) : w'.cell? ⟨b, o, none⟩ = some v :=
  (World.cell?_of_block (a := ⟨b, o, none⟩) (hk.block b hb hne)).trans h
theorem bel_alloc {w w1 : World} (h : Below w.heap.size w w1) (o : Obj) : Below w.heap.size w (w1.alloc o) := h.alloc h.size o
/-- A cell that was there is as it was. -/
theorem keepc {w w' : World} {b o : Nat} {v : Value} (hb : Below w.heap.size w w') (h : w.cell? ⟨b, o, none⟩ = some v) : w'.cell? ⟨b, o, none⟩ = some v :=
  (hb.cell (p := ⟨b, o, none⟩) (World.block_lt_of_cell? _ _ h)).trans h
end Go.Proofs.YtabdgnigmlpeaaaGreatDoor
