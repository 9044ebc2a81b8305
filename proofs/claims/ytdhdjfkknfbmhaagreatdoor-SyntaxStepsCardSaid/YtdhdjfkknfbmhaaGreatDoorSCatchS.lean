/- What read of steps defers. -/
import Derived.Test.YtdhdjfkknfbmhaaGreatDoorSCatch
namespace Go.Proofs.YtdhdjfkknfbmhaaGreatDoor
open Go.RowKit

set_option maxHeartbeats 4000000 in
set_option maxRecDepth 100000 in
theorem catchS_panicking (ba be : Nat) (older : List PanicEntry) (w : World) (c0 d0 : Value) (h0 : w.cell? ⟨ba, 0, none⟩ = some c0) (h1 : w.cell? ⟨be, 0, none⟩ = some d0)
    (f0 : w.frozen? ⟨ba, 0, none⟩ = false) (f1 : w.frozen? ⟨be, 0, none⟩ = false) (hne : ba ≠ be) (a x : Int) :
    CallsD Tryz.prog 90 #[.pointer (some ⟨ba, 0, none⟩), .pointer (some ⟨be, 0, none⟩)] (.panicking ({ v := .iface 127 (.agg #[.int .i64 a, .int .i64 x]), recovered := false } :: older)) w fun e u' w' =>
      e = .returned (.tuple #[]) ∧ u' = .panicking ({ v := .iface 127 (.agg #[.int .i64 a, .int .i64 x]), recovered := true } :: older) ∧ Two w w' ba be (.int .i64 a) (.int .i64 x) := by
  refine callsD_of_wpS Tryz.func90 rfl fun c₀ cs hu => ?_
  apply wpS_seq
  apply wpS_region
  simp [wpOpsS, go_sem, recoverD, hu, assert_yes, Tryz.ntmps90, Exit.thenS]
  refine wpS_of_wp ?_
  have l0 := World.block_lt_of_cell? w ⟨ba, 0, none⟩ h0
  have l1 := World.block_lt_of_cell? w ⟨be, 0, none⟩ h1
  simp only [Array.replicate, List.reduceReplicate, List.setIfInBounds_toArray, List.set_cons_succ, List.set_cons_zero, List.append_toArray, List.cons_append, List.nil_append]
  have l0 : ba < w.heap.size := l0
  have l1 : be < w.heap.size := l1
  have hne' : be ≠ ba := fun e => hne e.symm
  go_wp2_with fail
  go_region
  have HT := Two.laid h0 h1 hne (.int .i64 a) (.int .i64 x) (.cells #[.int .i64 a, .int .i64 x] 127)
  cases c₀
  simp_all (config := { zetaDelta := true }) [bodyPostS, results, Tryz.results90]

set_option maxHeartbeats 4000000 in
set_option maxRecDepth 100000 in
theorem catchS_idle (ba be : Nat) (w : World) :
    CallsD Tryz.prog 90 #[.pointer (some ⟨ba, 0, none⟩), .pointer (some ⟨be, 0, none⟩)] .returning w fun e u' w' => e = .returned (.tuple #[]) ∧ u' = .returning ∧ Below w.heap.size w w' := by
  refine callsD_of_wpS Tryz.func90 rfl fun c₀ cs hu => ?_
  apply wpS_seq
  apply wpS_region
  simp [wpOpsS, go_sem, recoverD, hu, assert_no, Tryz.ntmps90, Exit.thenS]
  refine wpS_of_wp ?_
  simp only [Array.replicate, List.reduceReplicate, List.setIfInBounds_toArray, List.set_cons_succ, List.set_cons_zero, List.append_toArray, List.cons_append, List.nil_append]
  have HB := (Below.refl w.heap.size w).alloc (Nat.le_refl _) (.cells #[.int .i64 0, .int .i64 0] 127)
  go_wp2_with fail
  cases c₀
  simp_all [bodyPostS, results, Tryz.results90]
end Go.Proofs.YtdhdjfkknfbmhaaGreatDoor
