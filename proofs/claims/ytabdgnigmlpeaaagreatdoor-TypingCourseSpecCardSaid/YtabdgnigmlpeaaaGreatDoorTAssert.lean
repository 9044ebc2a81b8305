/- What a type assertion on a form comes to. -/
import Derived.Test.YtabdgnigmlpeaaaGreatDoorTMem
namespace Go.Proofs.YtabdgnigmlpeaaaGreatDoor
open Go.RowKit

theorem ta_atLeast_atLeast (a : Array Value) (w : World) : (Instr.typeAssert (.iface 173 (.agg a)) 94 173 true).run Tryz.prog w = .ok (.tuple #[.agg a, .bool true]) w := by kernel_rfl
theorem ta_atLeast_allOf (a : Array Value) (w : World) : (Instr.typeAssert (.iface 173 (.agg a)) 94 176 true).run Tryz.prog w = .ok (.tuple #[.agg #[.slice none 0 0], .bool false]) w := by kernel_rfl
theorem ta_atLeast_oneOf (a : Array Value) (w : World) : (Instr.typeAssert (.iface 173 (.agg a)) 94 179 true).run Tryz.prog w = .ok (.tuple #[.agg #[.slice none 0 0], .bool false]) w := by kernel_rfl
theorem ta_atLeast_negation (a : Array Value) (w : World) : (Instr.typeAssert (.iface 173 (.agg a)) 94 181 true).run Tryz.prog w = .ok (.tuple #[.agg #[.nilIface], .bool false]) w := by kernel_rfl
theorem ta_atLeast_criterion (a : Array Value) (w : World) : (Instr.typeAssert (.iface 173 (.agg a)) 94 167 true).run Tryz.prog w = .ok (.tuple #[.agg #[.int .i64 0], .bool false]) w := by kernel_rfl
theorem ta_atLeast_branch (a : Array Value) (w : World) : (Instr.typeAssert (.iface 173 (.agg a)) 94 169 true).run Tryz.prog w = .ok (.tuple #[.agg #[.nilIface, .slice none 0 0, .slice none 0 0], .bool false]) w := by kernel_rfl
theorem ta_allOf_atLeast (a : Array Value) (w : World) : (Instr.typeAssert (.iface 176 (.agg a)) 94 173 true).run Tryz.prog w = .ok (.tuple #[.agg #[.int .i64 0, .int .i64 0], .bool false]) w := by kernel_rfl
theorem ta_allOf_allOf (a : Array Value) (w : World) : (Instr.typeAssert (.iface 176 (.agg a)) 94 176 true).run Tryz.prog w = .ok (.tuple #[.agg a, .bool true]) w := by kernel_rfl
theorem ta_allOf_oneOf (a : Array Value) (w : World) : (Instr.typeAssert (.iface 176 (.agg a)) 94 179 true).run Tryz.prog w = .ok (.tuple #[.agg #[.slice none 0 0], .bool false]) w := by kernel_rfl
theorem ta_allOf_negation (a : Array Value) (w : World) : (Instr.typeAssert (.iface 176 (.agg a)) 94 181 true).run Tryz.prog w = .ok (.tuple #[.agg #[.nilIface], .bool false]) w := by kernel_rfl
theorem ta_allOf_criterion (a : Array Value) (w : World) : (Instr.typeAssert (.iface 176 (.agg a)) 94 167 true).run Tryz.prog w = .ok (.tuple #[.agg #[.int .i64 0], .bool false]) w := by kernel_rfl
theorem ta_allOf_branch (a : Array Value) (w : World) : (Instr.typeAssert (.iface 176 (.agg a)) 94 169 true).run Tryz.prog w = .ok (.tuple #[.agg #[.nilIface, .slice none 0 0, .slice none 0 0], .bool false]) w := by kernel_rfl
theorem ta_oneOf_atLeast (a : Array Value) (w : World) : (Instr.typeAssert (.iface 179 (.agg a)) 94 173 true).run Tryz.prog w = .ok (.tuple #[.agg #[.int .i64 0, .int .i64 0], .bool false]) w := by kernel_rfl
theorem ta_oneOf_allOf (a : Array Value) (w : World) : (Instr.typeAssert (.iface 179 (.agg a)) 94 176 true).run Tryz.prog w = .ok (.tuple #[.agg #[.slice none 0 0], .bool false]) w := by kernel_rfl
theorem ta_oneOf_oneOf (a : Array Value) (w : World) : (Instr.typeAssert (.iface 179 (.agg a)) 94 179 true).run Tryz.prog w = .ok (.tuple #[.agg a, .bool true]) w := by kernel_rfl
theorem ta_oneOf_negation (a : Array Value) (w : World) : (Instr.typeAssert (.iface 179 (.agg a)) 94 181 true).run Tryz.prog w = .ok (.tuple #[.agg #[.nilIface], .bool false]) w := by kernel_rfl
theorem ta_oneOf_criterion (a : Array Value) (w : World) : (Instr.typeAssert (.iface 179 (.agg a)) 94 167 true).run Tryz.prog w = .ok (.tuple #[.agg #[.int .i64 0], .bool false]) w := by kernel_rfl
theorem ta_oneOf_branch (a : Array Value) (w : World) : (Instr.typeAssert (.iface 179 (.agg a)) 94 169 true).run Tryz.prog w = .ok (.tuple #[.agg #[.nilIface, .slice none 0 0, .slice none 0 0], .bool false]) w := by kernel_rfl
theorem ta_negation_atLeast (a : Array Value) (w : World) : (Instr.typeAssert (.iface 181 (.agg a)) 94 173 true).run Tryz.prog w = .ok (.tuple #[.agg #[.int .i64 0, .int .i64 0], .bool false]) w := by kernel_rfl
theorem ta_negation_allOf (a : Array Value) (w : World) : (Instr.typeAssert (.iface 181 (.agg a)) 94 176 true).run Tryz.prog w = .ok (.tuple #[.agg #[.slice none 0 0], .bool false]) w := by kernel_rfl
theorem ta_negation_oneOf (a : Array Value) (w : World) : (Instr.typeAssert (.iface 181 (.agg a)) 94 179 true).run Tryz.prog w = .ok (.tuple #[.agg #[.slice none 0 0], .bool false]) w := by kernel_rfl
theorem ta_negation_negation (a : Array Value) (w : World) : (Instr.typeAssert (.iface 181 (.agg a)) 94 181 true).run Tryz.prog w = .ok (.tuple #[.agg a, .bool true]) w := by kernel_rfl
theorem ta_negation_criterion (a : Array Value) (w : World) : (Instr.typeAssert (.iface 181 (.agg a)) 94 167 true).run Tryz.prog w = .ok (.tuple #[.agg #[.int .i64 0], .bool false]) w := by kernel_rfl
theorem ta_negation_branch (a : Array Value) (w : World) : (Instr.typeAssert (.iface 181 (.agg a)) 94 169 true).run Tryz.prog w = .ok (.tuple #[.agg #[.nilIface, .slice none 0 0, .slice none 0 0], .bool false]) w := by kernel_rfl
theorem ta_criterion_atLeast (a : Array Value) (w : World) : (Instr.typeAssert (.iface 167 (.agg a)) 94 173 true).run Tryz.prog w = .ok (.tuple #[.agg #[.int .i64 0, .int .i64 0], .bool false]) w := by kernel_rfl
theorem ta_criterion_allOf (a : Array Value) (w : World) : (Instr.typeAssert (.iface 167 (.agg a)) 94 176 true).run Tryz.prog w = .ok (.tuple #[.agg #[.slice none 0 0], .bool false]) w := by kernel_rfl
theorem ta_criterion_oneOf (a : Array Value) (w : World) : (Instr.typeAssert (.iface 167 (.agg a)) 94 179 true).run Tryz.prog w = .ok (.tuple #[.agg #[.slice none 0 0], .bool false]) w := by kernel_rfl
theorem ta_criterion_negation (a : Array Value) (w : World) : (Instr.typeAssert (.iface 167 (.agg a)) 94 181 true).run Tryz.prog w = .ok (.tuple #[.agg #[.nilIface], .bool false]) w := by kernel_rfl
theorem ta_criterion_criterion (a : Array Value) (w : World) : (Instr.typeAssert (.iface 167 (.agg a)) 94 167 true).run Tryz.prog w = .ok (.tuple #[.agg a, .bool true]) w := by kernel_rfl
theorem ta_criterion_branch (a : Array Value) (w : World) : (Instr.typeAssert (.iface 167 (.agg a)) 94 169 true).run Tryz.prog w = .ok (.tuple #[.agg #[.nilIface, .slice none 0 0, .slice none 0 0], .bool false]) w := by kernel_rfl
theorem ta_branch_atLeast (a : Array Value) (w : World) : (Instr.typeAssert (.iface 169 (.agg a)) 94 173 true).run Tryz.prog w = .ok (.tuple #[.agg #[.int .i64 0, .int .i64 0], .bool false]) w := by kernel_rfl
theorem ta_branch_allOf (a : Array Value) (w : World) : (Instr.typeAssert (.iface 169 (.agg a)) 94 176 true).run Tryz.prog w = .ok (.tuple #[.agg #[.slice none 0 0], .bool false]) w := by kernel_rfl
theorem ta_branch_oneOf (a : Array Value) (w : World) : (Instr.typeAssert (.iface 169 (.agg a)) 94 179 true).run Tryz.prog w = .ok (.tuple #[.agg #[.slice none 0 0], .bool false]) w := by kernel_rfl
theorem ta_branch_negation (a : Array Value) (w : World) : (Instr.typeAssert (.iface 169 (.agg a)) 94 181 true).run Tryz.prog w = .ok (.tuple #[.agg #[.nilIface], .bool false]) w := by kernel_rfl
theorem ta_branch_criterion (a : Array Value) (w : World) : (Instr.typeAssert (.iface 169 (.agg a)) 94 167 true).run Tryz.prog w = .ok (.tuple #[.agg #[.int .i64 0], .bool false]) w := by kernel_rfl
theorem ta_branch_branch (a : Array Value) (w : World) : (Instr.typeAssert (.iface 169 (.agg a)) 94 169 true).run Tryz.prog w = .ok (.tuple #[.agg a, .bool true]) w := by kernel_rfl
theorem ta_misfit_atLeast (a : Array Value) (w : World) : (Instr.typeAssert (.iface 213 (.agg a)) 94 173 true).run Tryz.prog w = .ok (.tuple #[.agg #[.int .i64 0, .int .i64 0], .bool false]) w := by kernel_rfl
theorem ta_misfit_allOf (a : Array Value) (w : World) : (Instr.typeAssert (.iface 213 (.agg a)) 94 176 true).run Tryz.prog w = .ok (.tuple #[.agg #[.slice none 0 0], .bool false]) w := by kernel_rfl
theorem ta_misfit_oneOf (a : Array Value) (w : World) : (Instr.typeAssert (.iface 213 (.agg a)) 94 179 true).run Tryz.prog w = .ok (.tuple #[.agg #[.slice none 0 0], .bool false]) w := by kernel_rfl
theorem ta_misfit_negation (a : Array Value) (w : World) : (Instr.typeAssert (.iface 213 (.agg a)) 94 181 true).run Tryz.prog w = .ok (.tuple #[.agg #[.nilIface], .bool false]) w := by kernel_rfl
theorem ta_misfit_criterion (a : Array Value) (w : World) : (Instr.typeAssert (.iface 213 (.agg a)) 94 167 true).run Tryz.prog w = .ok (.tuple #[.agg #[.int .i64 0], .bool false]) w := by kernel_rfl
theorem ta_misfit_branch (a : Array Value) (w : World) : (Instr.typeAssert (.iface 213 (.agg a)) 94 169 true).run Tryz.prog w = .ok (.tuple #[.agg #[.nilIface, .slice none 0 0, .slice none 0 0], .bool false]) w := by kernel_rfl
end Go.Proofs.YtabdgnigmlpeaaaGreatDoor
