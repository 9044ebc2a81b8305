/- Maps without entries. -/
import Derived.Test.YtabdgnigmlpeaaaGreatDoorTNil
import Derived.Laws.IdiomRangeMap
import Derived.Carry
namespace Go.Proofs.YtabdgnigmlpeaaaGreatDoor
open Go.RowKit

theorem range_empty (w : World) (t k e : TypeId) (ht : Tryz.prog.underlying t = some (.map k e)) : (Instr.range t (.map (some w.heap.size))).run Tryz.prog (w.alloc (.map #[] 0)) = .ok (.pointer (some ⟨w.heap.size + 1, 0, none⟩)) ((w.alloc (.map #[] 0)).alloc (.mapIter (some w.heap.size) 0 #[] 0)) := by
  have h := run_range_map (P := Tryz.prog) (w.alloc (.map #[] 0)) t k e w.heap.size #[] 0 ht (heap_alloc_new w _)
  rw [World.size_alloc] at h
  exact h
theorem next_empty (w : World) (ty : TypeId) : (Instr.next (.pointer (some ⟨w.heap.size + 1, 0, none⟩)) false ty).run Tryz.prog ((w.alloc (.map #[] 0)).alloc (.mapIter (some w.heap.size) 0 #[] 0)) = .ok (.tuple #[.bool false]) ((w.alloc (.map #[] 0)).alloc (.mapIter (some w.heap.size) 0 #[] 0)) := by
  have h := run_next_map (P := Tryz.prog) (w.alloc (.map #[] 0)) ty w.heap.size 0 0 #[] #[] 0 (heap_alloc_new w _) (by simp) (Nat.le_refl _)
  rw [World.size_alloc] at h
  rcases h with h | ⟨e, he, _⟩
  · exact h.2
  · simp [leftOf] at he
theorem len_empty (w : World) (t r k e : TypeId) (ht : Tryz.prog.underlying t = some (.map k e)) : (Builtin.len_ #[t] r #[.map (some w.heap.size)]).run Tryz.prog (w.alloc (.map #[] 0)) = .ok (.int .i64 0) (w.alloc (.map #[] 0)) := by
  simp [Builtin.len_, run_underlying ht, MapKept.run_getObj_map (heap_alloc_new w (.map #[] 0))]
  rfl
theorem countsN_Mat (fn : Fn) (fs cs : Array Value) (w : World) : Calls Tryz.prog 132 #[.slice none 0 0, .func fn fs cs] w fun e w' => e = .returned (.map (some w.heap.size)) ∧ w' = w.alloc (.map #[] 0) := by
  have hmm := @run_makeMap Tryz.prog
  go_enter Tryz.func132, Tryz.ntmps132
  go_wp2_with fail
  go_loopw [11] (fun i wr => i = .int .i64 0 ∧ wr = w.alloc (.map #[] 0)) (fun _ _ => 0)
  case atStart => exact ⟨rfl, rfl⟩
  case round =>
    obtain ⟨rfl, rfl⟩ := hrel
    go_wp2_with fail
    go_ret
    exact ⟨rfl, rfl⟩
theorem namedN_Mat (fn : Fn) (fs cs : Array Value) (w : World) : Calls Tryz.prog 61 #[.slice none 0 0, .func fn fs cs] w fun e w' => e = .returned (.bool true) ∧ Below w.heap.size w w' := by
  have HA := Lib.hid (((Below.refl w.heap.size w).alloc (Nat.le_refl _) (.map #[] 0)).alloc (by simp) (.mapIter (some w.heap.size) 0 #[] 0))
  have h1 := range_empty w 189 9 3 Tryz.underlying189
  have h2 := fun ty => next_empty w ty
  go_enter Tryz.func61, Tryz.ntmps61
  go_wp2_with (go_at_call 132; (with_reducible refine (countsN_Mat _ _ _ _).mono ?_); rintro e w1 ⟨rfl, rfl⟩)
  go_loopw [11] (fun _ wr => wr = (w.alloc (.map #[] 0)).alloc (.mapIter (some w.heap.size) 0 #[] 0)) (fun _ _ => 0)
  case atStart => rfl
  case round =>
    obtain rfl := hrel
    go_wp2_with fail
    go_ret
    exact ⟨rfl, HA.out⟩
theorem countsN_Dist (fn : Fn) (fs cs : Array Value) (w : World) : Calls Tryz.prog 133 #[.slice none 0 0, .func fn fs cs] w fun e w' => e = .returned (.map (some w.heap.size)) ∧ w' = w.alloc (.map #[] 0) := by
  have hmm := @run_makeMap Tryz.prog
  go_enter Tryz.func133, Tryz.ntmps133
  go_wp2_with fail
  go_loopw [11] (fun i wr => i = .int .i64 0 ∧ wr = w.alloc (.map #[] 0)) (fun _ _ => 0)
  case atStart => exact ⟨rfl, rfl⟩
  case round =>
    obtain ⟨rfl, rfl⟩ := hrel
    go_wp2_with fail
    go_ret
    exact ⟨rfl, rfl⟩
theorem namedN_Dist (fn : Fn) (fs cs : Array Value) (w : World) : Calls Tryz.prog 63 #[.slice none 0 0, .func fn fs cs] w fun e w' => e = .returned (.bool true) ∧ Below w.heap.size w w' := by
  have HA := Lib.hid (((Below.refl w.heap.size w).alloc (Nat.le_refl _) (.map #[] 0)).alloc (by simp) (.mapIter (some w.heap.size) 0 #[] 0))
  have h1 := range_empty w 189 9 3 Tryz.underlying189
  have h2 := fun ty => next_empty w ty
  go_enter Tryz.func63, Tryz.ntmps63
  go_wp2_with (go_at_call 133; (with_reducible refine (countsN_Dist _ _ _ _).mono ?_); rintro e w1 ⟨rfl, rfl⟩)
  go_loopw [11] (fun _ wr => wr = (w.alloc (.map #[] 0)).alloc (.mapIter (some w.heap.size) 0 #[] 0)) (fun _ _ => 0)
  case atStart => rfl
  case round =>
    obtain rfl := hrel
    go_wp2_with fail
    go_ret
    exact ⟨rfl, HA.out⟩
theorem countsN_Wave (fn : Fn) (fs cs : Array Value) (w : World) : Calls Tryz.prog 134 #[.slice none 0 0, .func fn fs cs] w fun e w' => e = .returned (.map (some w.heap.size)) ∧ w' = w.alloc (.map #[] 0) := by
  have hmm := @run_makeMap Tryz.prog
  go_enter Tryz.func134, Tryz.ntmps134
  go_wp2_with fail
  go_loopw [11] (fun i wr => i = .int .i64 0 ∧ wr = w.alloc (.map #[] 0)) (fun _ _ => 0)
  case atStart => exact ⟨rfl, rfl⟩
  case round =>
    obtain ⟨rfl, rfl⟩ := hrel
    go_wp2_with fail
    go_ret
    exact ⟨rfl, rfl⟩
theorem namedN_Wave (fn : Fn) (fs cs : Array Value) (w : World) : Calls Tryz.prog 65 #[.slice none 0 0, .func fn fs cs] w fun e w' => e = .returned (.bool true) ∧ Below w.heap.size w w' := by
  have HA := Lib.hid (((Below.refl w.heap.size w).alloc (Nat.le_refl _) (.map #[] 0)).alloc (by simp) (.mapIter (some w.heap.size) 0 #[] 0))
  have h1 := range_empty w 189 9 3 Tryz.underlying189
  have h2 := fun ty => next_empty w ty
  go_enter Tryz.func65, Tryz.ntmps65
  go_wp2_with (go_at_call 134; (with_reducible refine (countsN_Wave _ _ _ _).mono ?_); rintro e w1 ⟨rfl, rfl⟩)
  go_loopw [11] (fun _ wr => wr = (w.alloc (.map #[] 0)).alloc (.mapIter (some w.heap.size) 0 #[] 0)) (fun _ _ => 0)
  case atStart => rfl
  case round =>
    obtain rfl := hrel
    go_wp2_with fail
    go_ret
    exact ⟨rfl, HA.out⟩
theorem countsN_Off (fn : Fn) (fs cs : Array Value) (w : World) : Calls Tryz.prog 135 #[.slice none 0 0, .func fn fs cs] w fun e w' => e = .returned (.map (some w.heap.size)) ∧ w' = w.alloc (.map #[] 0) := by
  have hmm := @run_makeMap Tryz.prog
  go_enter Tryz.func135, Tryz.ntmps135
  go_wp2_with fail
  go_loopw [11] (fun i wr => i = .int .i64 0 ∧ wr = w.alloc (.map #[] 0)) (fun _ _ => 0)
  case atStart => exact ⟨rfl, rfl⟩
  case round =>
    obtain ⟨rfl, rfl⟩ := hrel
    go_wp2_with fail
    go_ret
    exact ⟨rfl, rfl⟩
theorem namedN_Off (fn : Fn) (fs cs : Array Value) (w : World) : Calls Tryz.prog 67 #[.slice none 0 0, .func fn fs cs] w fun e w' => e = .returned (.bool true) ∧ Below w.heap.size w w' := by
  have HA := Lib.hid (((Below.refl w.heap.size w).alloc (Nat.le_refl _) (.map #[] 0)).alloc (by simp) (.mapIter (some w.heap.size) 0 #[] 0))
  have h1 := range_empty w 189 9 3 Tryz.underlying189
  have h2 := fun ty => next_empty w ty
  go_enter Tryz.func67, Tryz.ntmps67
  go_wp2_with (go_at_call 135; (with_reducible refine (countsN_Off _ _ _ _).mono ?_); rintro e w1 ⟨rfl, rfl⟩)
  go_loopw [11] (fun _ wr => wr = (w.alloc (.map #[] 0)).alloc (.mapIter (some w.heap.size) 0 #[] 0)) (fun _ _ => 0)
  case atStart => rfl
  case round =>
    obtain rfl := hrel
    go_wp2_with fail
    go_ret
    exact ⟨rfl, HA.out⟩
theorem countsN_Cat (fn : Fn) (fs cs : Array Value) (w : World) : Calls Tryz.prog 136 #[.slice none 0 0, .func fn fs cs] w fun e w' => e = .returned (.map (some w.heap.size)) ∧ w' = w.alloc (.map #[] 0) := by
  have hmm := @run_makeMap Tryz.prog
  go_enter Tryz.func136, Tryz.ntmps136
  go_wp2_with fail
  go_loopw [11] (fun i wr => i = .int .i64 0 ∧ wr = w.alloc (.map #[] 0)) (fun _ _ => 0)
  case atStart => exact ⟨rfl, rfl⟩
  case round =>
    obtain ⟨rfl, rfl⟩ := hrel
    go_wp2_with fail
    go_ret
    exact ⟨rfl, rfl⟩
theorem namedN_Cat (fn : Fn) (fs cs : Array Value) (w : World) : Calls Tryz.prog 69 #[.slice none 0 0, .func fn fs cs] w fun e w' => e = .returned (.bool true) ∧ Below w.heap.size w w' := by
  have HA := Lib.hid (((Below.refl w.heap.size w).alloc (Nat.le_refl _) (.map #[] 0)).alloc (by simp) (.mapIter (some w.heap.size) 0 #[] 0))
  have h1 := range_empty w 189 9 3 Tryz.underlying189
  have h2 := fun ty => next_empty w ty
  go_enter Tryz.func69, Tryz.ntmps69
  go_wp2_with (go_at_call 136; (with_reducible refine (countsN_Cat _ _ _ _).mono ?_); rintro e w1 ⟨rfl, rfl⟩)
  go_loopw [11] (fun _ wr => wr = (w.alloc (.map #[] 0)).alloc (.mapIter (some w.heap.size) 0 #[] 0)) (fun _ _ => 0)
  case atStart => rfl
  case round =>
    obtain rfl := hrel
    go_wp2_with fail
    go_ret
    exact ⟨rfl, HA.out⟩
theorem countsN_Leg (fn : Fn) (fs cs : Array Value) (w : World) : Calls Tryz.prog 92 #[.slice none 0 0, .func fn fs cs] w fun e w' => e = .returned (.map (some w.heap.size)) ∧ w' = w.alloc (.map #[] 0) := by
  have hmm := @run_makeMap Tryz.prog
  go_enter Tryz.func92, Tryz.ntmps92
  go_wp2_with fail
  go_loopw [11] (fun i wr => i = .int .i64 0 ∧ wr = w.alloc (.map #[] 0)) (fun _ _ => 0)
  case atStart => exact ⟨rfl, rfl⟩
  case round =>
    obtain ⟨rfl, rfl⟩ := hrel
    go_wp2_with fail
    go_ret
    exact ⟨rfl, rfl⟩
set_option maxRecDepth 100000 in
theorem distinctN_Leg (fn : Fn) (fs cs : Array Value) (w : World) : Calls Tryz.prog 78 #[.slice none 0 0, .func fn fs cs] w fun e w' => e = .returned (.bool true) ∧ Below w.heap.size w w' := by
  have HA := Lib.hid ((Below.refl w.heap.size w).alloc (Nat.le_refl _) (.map #[] 0))
  have hlen := fun r => len_empty w 146 r 132 3 Tryz.underlying146
  go_enter Tryz.func78, Tryz.ntmps78
  go_wp2_with (go_at_call 92; (with_reducible refine (countsN_Leg _ _ _ _).mono ?_); rintro e w1 ⟨rfl, rfl⟩)
  go_ret
  exact ⟨rfl, HA.out⟩
theorem countsN_Prize (fn : Fn) (fs cs : Array Value) (w : World) : Calls Tryz.prog 154 #[.slice none 0 0, .func fn fs cs] w fun e w' => e = .returned (.map (some w.heap.size)) ∧ w' = w.alloc (.map #[] 0) := by
  have hmm := @run_makeMap Tryz.prog
  go_enter Tryz.func154, Tryz.ntmps154
  go_wp2_with fail
  go_loopw [11] (fun i wr => i = .int .i64 0 ∧ wr = w.alloc (.map #[] 0)) (fun _ _ => 0)
  case atStart => exact ⟨rfl, rfl⟩
  case round =>
    obtain ⟨rfl, rfl⟩ := hrel
    go_wp2_with fail
    go_ret
    exact ⟨rfl, rfl⟩
set_option maxRecDepth 100000 in
theorem distinctN_Prize (fn : Fn) (fs cs : Array Value) (w : World) : Calls Tryz.prog 89 #[.slice none 0 0, .func fn fs cs] w fun e w' => e = .returned (.bool true) ∧ Below w.heap.size w w' := by
  have HA := Lib.hid ((Below.refl w.heap.size w).alloc (Nat.le_refl _) (.map #[] 0))
  have hlen := fun r => len_empty w 198 r 143 3 Tryz.underlying198
  go_enter Tryz.func89, Tryz.ntmps89
  go_wp2_with (go_at_call 154; (with_reducible refine (countsN_Prize _ _ _ _).mono ?_); rintro e w1 ⟨rfl, rfl⟩)
  go_ret
  exact ⟨rfl, HA.out⟩
end Go.Proofs.YtabdgnigmlpeaaaGreatDoor
