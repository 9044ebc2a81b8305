/- What read defers. -/
import Derived.Test.YtdhdjfkknfbmhaaGreatDoorSSteps
import Derived.Defers
import Derived.Recover
import Derived.Laws.Pointers
namespace Go.Proofs.YtdhdjfkknfbmhaaGreatDoor
open Go.RowKit

/-- The two cells that the deferred closure writes: the offset and the error. -/
structure Two (w w' : World) (ba be : Nat) (a x : Value) : Prop where
  os : w'.os = w.os
  tape : w'.tape = w.tape
  output : w'.output = w.output
  size : w.heap.size ≤ w'.heap.size
  block : ∀ k, k < w.heap.size → k ≠ ba → k ≠ be → w'.heap[k]? = w.heap[k]?
  ca : w'.cell? ⟨ba, 0, none⟩ = some a
  ce : w'.cell? ⟨be, 0, none⟩ = some x

theorem Two.laid {w : World} {ba be : Nat} {c0 d0 : Value} (h0 : w.cell? ⟨ba, 0, none⟩ = some c0) (h1 : w.cell? ⟨be, 0, none⟩ = some d0) (hne : ba ≠ be) (a x : Value) (o : Obj) :
    Two w ((((w.setCell ⟨ba, 0, none⟩ a).setCell ⟨be, 0, none⟩ x).alloc o).drew) ba be a x := by
  have l0 : ba < w.heap.size := World.block_lt_of_cell? w ⟨ba, 0, none⟩ h0
  have l1 : be < w.heap.size := World.block_lt_of_cell? w ⟨be, 0, none⟩ h1
  have hB := ((Below.refl ((w.setCell ⟨ba, 0, none⟩ a).setCell ⟨be, 0, none⟩ x).heap.size ((w.setCell ⟨ba, 0, none⟩ a).setCell ⟨be, 0, none⟩ x)).alloc (Nat.le_refl _) o).drew
  have hs : ((w.setCell ⟨ba, 0, none⟩ a).setCell ⟨be, 0, none⟩ x).heap.size = w.heap.size := by simp
  refine ⟨rfl, rfl, rfl, by rw [← hs]; exact hB.size, fun k hk h2 h3 => ?_, ?_, ?_⟩
  · rw [hB.block k (by omega), heap_setCell_other _ _ _ _ h3, heap_setCell_other _ _ _ _ h2]
  · rw [hB.cell (p := ⟨ba, 0, none⟩) (show ba < _ by omega)]
    exact (World.cell?_setCell_far _ ⟨be, 0, none⟩ ⟨ba, 0, none⟩ _ (fun h => hne h.symm)).trans (World.cell?_setCell_same _ _ _ h0)
  · rw [hB.cell (p := ⟨be, 0, none⟩) (show be < _ by omega)]
    exact World.cell?_setCell_same _ _ _ ((World.cell?_setCell_far _ ⟨ba, 0, none⟩ ⟨be, 0, none⟩ _ hne).trans h1)
theorem Two.refl {w : World} {ba be : Nat} {a x : Value} (h0 : w.cell? ⟨ba, 0, none⟩ = some a) (h1 : w.cell? ⟨be, 0, none⟩ = some x) : Two w w ba be a x := ⟨rfl, rfl, rfl, Nat.le_refl _, fun _ _ _ _ => rfl, h0, h1⟩
theorem assert_yes (a x : Int) (w : World) : (Instr.typeAssert (.iface 127 (.agg #[.int .i64 a, .int .i64 x])) 20 127 true).run Tryz.prog w = .ok (.tuple #[.agg #[.int .i64 a, .int .i64 x], .bool true]) w := by kernel_rfl
theorem assert_no (w : World) : (Instr.typeAssert .nilIface 20 127 true).run Tryz.prog w = .ok (.tuple #[.agg #[.int .i64 0, .int .i64 0], .bool false]) w := by kernel_rfl
set_option maxHeartbeats 4000000 in
set_option maxRecDepth 100000 in
theorem catchC_panicking (ba be : Nat) (older : List PanicEntry) (w : World) (c0 d0 : Value) (h0 : w.cell? ⟨ba, 0, none⟩ = some c0) (h1 : w.cell? ⟨be, 0, none⟩ = some d0)
    (f0 : w.frozen? ⟨ba, 0, none⟩ = false) (f1 : w.frozen? ⟨be, 0, none⟩ = false) (hne : ba ≠ be) (a x : Int) :
    CallsD Tryz.prog 95 #[.pointer (some ⟨ba, 0, none⟩), .pointer (some ⟨be, 0, none⟩)] (.panicking ({ v := .iface 127 (.agg #[.int .i64 a, .int .i64 x]), recovered := false } :: older)) w fun e u' w' =>
      e = .returned (.tuple #[]) ∧ u' = .panicking ({ v := .iface 127 (.agg #[.int .i64 a, .int .i64 x]), recovered := true } :: older) ∧ Two w w' ba be (.int .i64 a) (.int .i64 x) := by
  refine callsD_of_wpS Tryz.func95 rfl fun c₀ cs hu => ?_
  apply wpS_seq
  apply wpS_region
  simp [wpOpsS, go_sem, recoverD, hu, assert_yes, Tryz.ntmps95, Exit.thenS]
  refine wpS_of_wp ?_
  have l0 := World.block_lt_of_cell? w ⟨ba, 0, none⟩ h0
  have l1 := World.block_lt_of_cell? w ⟨be, 0, none⟩ h1
  simp only [Array.replicate, List.reduceReplicate, List.setIfInBounds_toArray, List.set_cons_succ, List.set_cons_zero, List.append_toArray, List.cons_append, List.nil_append]
  have l0 : ba < w.heap.size := l0
  have l1 : be < w.heap.size := l1
  have hne' : be ≠ ba := fun e => hne e.symm
  go_wp2_with fail
  go_region
  have HT := Two.laid h0 h1 hne (.int .i64 a) (.int .i64 x) (.cells #[.int .i64 a, .int .i64 x] 127)
  cases c₀
  simp_all (config := { zetaDelta := true }) [bodyPostS, results, Tryz.results95]

set_option maxHeartbeats 4000000 in
set_option maxRecDepth 100000 in
theorem catchC_idle (ba be : Nat) (w : World) :
    CallsD Tryz.prog 95 #[.pointer (some ⟨ba, 0, none⟩), .pointer (some ⟨be, 0, none⟩)] .returning w fun e u' w' => e = .returned (.tuple #[]) ∧ u' = .returning ∧ Below w.heap.size w w' := by
  refine callsD_of_wpS Tryz.func95 rfl fun c₀ cs hu => ?_
  apply wpS_seq
  apply wpS_region
  simp [wpOpsS, go_sem, recoverD, hu, assert_no, Tryz.ntmps95, Exit.thenS]
  refine wpS_of_wp ?_
  simp only [Array.replicate, List.reduceReplicate, List.setIfInBounds_toArray, List.set_cons_succ, List.set_cons_zero, List.append_toArray, List.cons_append, List.nil_append]
  have HB := (Below.refl w.heap.size w).alloc (Nat.le_refl _) (.cells #[.int .i64 0, .int .i64 0] 127)
  go_wp2_with fail
  cases c₀
  simp_all [bodyPostS, results, Tryz.results95]
end Go.Proofs.YtdhdjfkknfbmhaaGreatDoor
