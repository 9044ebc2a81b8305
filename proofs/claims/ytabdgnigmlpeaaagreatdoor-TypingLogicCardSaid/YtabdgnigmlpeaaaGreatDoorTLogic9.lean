/- TypingLogic: its last region. -/
import Derived.Test.YtabdgnigmlpeaaaGreatDoorTLogicB
namespace Go.Proofs.YtabdgnigmlpeaaaGreatDoor
open Go.RowKit

noncomputable def ops9 : Array Oper := (Tryz.f6.body.bind (findOps 9)).getD #[]
def plan9 : List (Bool × Nat) := [(true, 0), (true, 2), (true, 4), (true, 5), (false, 1), (false, 3), (true, 6), (true, 7), (true, 8), (true, 9), (true, 12), (true, 14), (false, 10), (false, 11), (false, 13), (true, 15), (true, 16), (true, 17), (true, 18), (true, 19), (true, 20), (true, 21), (true, 22), (true, 25), (true, 27), (false, 23), (false, 24), (false, 26), (true, 28), (true, 29), (true, 30), (true, 31), (true, 32), (true, 33), (true, 34), (true, 35), (true, 36), (true, 39), (true, 41), (false, 37), (false, 38), (false, 40), (true, 42), (true, 43), (true, 44), (true, 45), (true, 46), (true, 47), (true, 48), (true, 49), (true, 50), (true, 53), (true, 55), (false, 51), (false, 52), (false, 54), (true, 56), (true, 57), (true, 58), (true, 59), (true, 60), (true, 61), (true, 62), (true, 63), (true, 67), (true, 69), (true, 71), (true, 75), (false, 64), (false, 65), (false, 66), (false, 68), (false, 70), (false, 72), (false, 73), (false, 74), (false, 76), (true, 77), (true, 78), (true, 79), (true, 80), (true, 83), (true, 85), (false, 81), (false, 82), (false, 84), (true, 86), (true, 87), (true, 88)]
theorem sel9 : Region.noSelect ops9 = true := by kernel_rfl
theorem len9 : plan9.length ≤ ops9.size := of_decide_eq_true (by kernel_rfl)
theorem ok9 : planOk ops9 plan9 (Array.replicate ops9.size false) = true := by kernel_rfl
theorem ho9_0 : ops9[0]? = some { dst := some 65, op := Op.load 40 (Operand.tmp 3), type := 40, pos := "law.go:92", after := #[], guard := none } := by kernel_rfl
theorem ho9_1 : ops9[1]? = some { dst := some 66, op := Op.call { callee := Callee.value (Operand.func 28), args := #[Operand.tmp 65], argTypes := #[40] }, type := 40, pos := "law.go:92", after := #[{ on := 0, ground := Ground.data }], guard := none } := by kernel_rfl
theorem ho9_2 : ops9[2]? = some { dst := some 67, op := Op.load 42 (Operand.tmp 7), type := 42, pos := "law.go:92", after := #[], guard := none } := by kernel_rfl
theorem ho9_3 : ops9[3]? = some { dst := some 68, op := Op.call { callee := Callee.value (Operand.func 30), args := #[Operand.tmp 66, Operand.tmp 67], argTypes := #[40, 42] }, type := 4, pos := "law.go:92", after := #[{ on := 1, ground := Ground.data }, { on := 2, ground := Ground.data }, { on := 1, ground := Ground.chain }], guard := none } := by kernel_rfl
theorem ho9_4 : ops9[4]? = some { dst := some 69, op := Op.move (Operand.tmp 8), type := 4, pos := "law.go:92", after := #[], guard := none } := by kernel_rfl
theorem ho9_5 : ops9[5]? = some { dst := some 70, op := Op.unOp UnOp.not 4 (Operand.tmp 69), type := 4, pos := "law.go:92", after := #[{ on := 4, ground := Ground.data }], guard := none } := by kernel_rfl
theorem ho9_6 : ops9[6]? = some { dst := some 71, op := Op.binOp BinOp.eql 4 (Operand.tmp 68) (Operand.tmp 70) 4, type := 4, pos := "law.go:92", after := #[{ on := 3, ground := Ground.data }, { on := 5, ground := Ground.data }], guard := none } := by kernel_rfl
theorem ho9_7 : ops9[7]? = some { dst := some 72, op := Op.move (Operand.tmp 71), type := 4, pos := "law.go:92", after := #[{ on := 6, ground := Ground.data }, { on := 3, ground := Ground.chain }], guard := none } := by kernel_rfl
theorem ho9_8 : ops9[8]? = some { dst := some 73, op := Op.load 40 (Operand.tmp 3), type := 40, pos := "law.go:92", after := #[{ on := 7, ground := Ground.guard }], guard := some (7, true) } := by kernel_rfl
theorem ho9_9 : ops9[9]? = some { dst := some 74, op := Op.load 40 (Operand.tmp 4), type := 40, pos := "law.go:92", after := #[{ on := 7, ground := Ground.guard }], guard := some (7, true) } := by kernel_rfl
theorem ho9_10 : ops9[10]? = some { dst := some 75, op := Op.buildSlice 38 2 #[(0, Operand.tmp 73), (1, Operand.tmp 74)], type := 38, pos := "law.go:92", after := #[{ on := 8, ground := Ground.data }, { on := 9, ground := Ground.data }, { on := 7, ground := Ground.guard }], guard := some (7, true) } := by kernel_rfl
theorem ho9_11 : ops9[11]? = some { dst := some 76, op := Op.call { callee := Callee.value (Operand.func 29), args := #[Operand.const (Value.int IntKind.i64 2), Operand.tmp 75], argTypes := #[3, 38] }, type := 40, pos := "law.go:92", after := #[{ on := 10, ground := Ground.data }, { on := 7, ground := Ground.chain }, { on := 7, ground := Ground.guard }], guard := some (7, true) } := by kernel_rfl
theorem ho9_12 : ops9[12]? = some { dst := some 77, op := Op.load 42 (Operand.tmp 7), type := 42, pos := "law.go:92", after := #[{ on := 7, ground := Ground.guard }], guard := some (7, true) } := by kernel_rfl
theorem ho9_13 : ops9[13]? = some { dst := some 78, op := Op.call { callee := Callee.value (Operand.func 30), args := #[Operand.tmp 76, Operand.tmp 77], argTypes := #[40, 42] }, type := 4, pos := "law.go:92", after := #[{ on := 11, ground := Ground.data }, { on := 12, ground := Ground.data }, { on := 11, ground := Ground.chain }, { on := 7, ground := Ground.guard }], guard := some (7, true) } := by kernel_rfl
theorem ho9_14 : ops9[14]? = some { dst := some 79, op := Op.move (Operand.tmp 8), type := 4, pos := "law.go:92", after := #[{ on := 7, ground := Ground.guard }], guard := some (7, true) } := by kernel_rfl
theorem ho9_15 : ops9[15]? = some { dst := some 80, op := Op.move (Operand.tmp 79), type := 4, pos := "law.go:92", after := #[{ on := 14, ground := Ground.data }, { on := 13, ground := Ground.chain }, { on := 7, ground := Ground.guard }], guard := some (7, true) } := by kernel_rfl
theorem ho9_16 : ops9[16]? = some { dst := some 81, op := Op.move (Operand.tmp 9), type := 4, pos := "law.go:92", after := #[{ on := 15, ground := Ground.guard }], guard := some (15, true) } := by kernel_rfl
theorem ho9_17 : ops9[17]? = some { dst := some 82, op := Op.pick (Operand.tmp 80) (Operand.tmp 81) (Operand.const (Value.bool false)), type := 4, pos := "law.go:92", after := #[{ on := 15, ground := Ground.data }, { on := 16, ground := Ground.data }, { on := 7, ground := Ground.guard }], guard := some (7, true) } := by kernel_rfl
theorem ho9_18 : ops9[18]? = some { dst := some 83, op := Op.binOp BinOp.eql 4 (Operand.tmp 78) (Operand.tmp 82) 4, type := 4, pos := "law.go:92", after := #[{ on := 13, ground := Ground.data }, { on := 17, ground := Ground.data }, { on := 7, ground := Ground.guard }], guard := some (7, true) } := by kernel_rfl
theorem ho9_19 : ops9[19]? = some { dst := some 84, op := Op.pick (Operand.tmp 72) (Operand.tmp 83) (Operand.const (Value.bool false)), type := 4, pos := "law.go:92", after := #[{ on := 7, ground := Ground.data }, { on := 18, ground := Ground.data }], guard := none } := by kernel_rfl
theorem ho9_20 : ops9[20]? = some { dst := some 85, op := Op.move (Operand.tmp 84), type := 4, pos := "law.go:92", after := #[{ on := 19, ground := Ground.data }, { on := 15, ground := Ground.chain }], guard := none } := by kernel_rfl
theorem ho9_21 : ops9[21]? = some { dst := some 86, op := Op.load 40 (Operand.tmp 3), type := 40, pos := "law.go:92", after := #[{ on := 20, ground := Ground.guard }], guard := some (20, true) } := by kernel_rfl
theorem ho9_22 : ops9[22]? = some { dst := some 87, op := Op.load 40 (Operand.tmp 4), type := 40, pos := "law.go:92", after := #[{ on := 20, ground := Ground.guard }], guard := some (20, true) } := by kernel_rfl
theorem ho9_23 : ops9[23]? = some { dst := some 88, op := Op.buildSlice 38 2 #[(0, Operand.tmp 86), (1, Operand.tmp 87)], type := 38, pos := "law.go:92", after := #[{ on := 21, ground := Ground.data }, { on := 22, ground := Ground.data }, { on := 20, ground := Ground.guard }], guard := some (20, true) } := by kernel_rfl
theorem ho9_24 : ops9[24]? = some { dst := some 89, op := Op.call { callee := Callee.value (Operand.func 29), args := #[Operand.const (Value.int IntKind.i64 3), Operand.tmp 88], argTypes := #[3, 38] }, type := 40, pos := "law.go:92", after := #[{ on := 23, ground := Ground.data }, { on := 20, ground := Ground.chain }, { on := 20, ground := Ground.guard }], guard := some (20, true) } := by kernel_rfl
theorem ho9_25 : ops9[25]? = some { dst := some 90, op := Op.load 42 (Operand.tmp 7), type := 42, pos := "law.go:92", after := #[{ on := 20, ground := Ground.guard }], guard := some (20, true) } := by kernel_rfl
theorem ho9_26 : ops9[26]? = some { dst := some 91, op := Op.call { callee := Callee.value (Operand.func 30), args := #[Operand.tmp 89, Operand.tmp 90], argTypes := #[40, 42] }, type := 4, pos := "law.go:92", after := #[{ on := 24, ground := Ground.data }, { on := 25, ground := Ground.data }, { on := 24, ground := Ground.chain }, { on := 20, ground := Ground.guard }], guard := some (20, true) } := by kernel_rfl
theorem ho9_27 : ops9[27]? = some { dst := some 92, op := Op.move (Operand.tmp 8), type := 4, pos := "law.go:92", after := #[{ on := 20, ground := Ground.guard }], guard := some (20, true) } := by kernel_rfl
theorem ho9_28 : ops9[28]? = some { dst := some 93, op := Op.move (Operand.tmp 92), type := 4, pos := "law.go:92", after := #[{ on := 27, ground := Ground.data }, { on := 26, ground := Ground.chain }, { on := 20, ground := Ground.guard }], guard := some (20, true) } := by kernel_rfl
theorem ho9_29 : ops9[29]? = some { dst := some 94, op := Op.move (Operand.tmp 9), type := 4, pos := "law.go:92", after := #[{ on := 28, ground := Ground.guard }], guard := some (28, false) } := by kernel_rfl
theorem ho9_30 : ops9[30]? = some { dst := some 95, op := Op.pick (Operand.tmp 93) (Operand.const (Value.bool true)) (Operand.tmp 94), type := 4, pos := "law.go:92", after := #[{ on := 28, ground := Ground.data }, { on := 29, ground := Ground.data }, { on := 20, ground := Ground.guard }], guard := some (20, true) } := by kernel_rfl
theorem ho9_31 : ops9[31]? = some { dst := some 96, op := Op.binOp BinOp.eql 4 (Operand.tmp 91) (Operand.tmp 95) 4, type := 4, pos := "law.go:92", after := #[{ on := 26, ground := Ground.data }, { on := 30, ground := Ground.data }, { on := 20, ground := Ground.guard }], guard := some (20, true) } := by kernel_rfl
theorem ho9_32 : ops9[32]? = some { dst := some 97, op := Op.pick (Operand.tmp 85) (Operand.tmp 96) (Operand.const (Value.bool false)), type := 4, pos := "law.go:92", after := #[{ on := 20, ground := Ground.data }, { on := 31, ground := Ground.data }], guard := none } := by kernel_rfl
theorem ho9_33 : ops9[33]? = some { dst := some 98, op := Op.move (Operand.tmp 97), type := 4, pos := "law.go:92", after := #[{ on := 32, ground := Ground.data }, { on := 28, ground := Ground.chain }], guard := none } := by kernel_rfl
theorem ho9_34 : ops9[34]? = some { dst := some 99, op := Op.load 40 (Operand.tmp 4), type := 40, pos := "law.go:92", after := #[{ on := 33, ground := Ground.guard }], guard := some (33, true) } := by kernel_rfl
theorem ho9_35 : ops9[35]? = some { dst := some 100, op := Op.load 40 (Operand.tmp 3), type := 40, pos := "law.go:92", after := #[{ on := 33, ground := Ground.guard }], guard := some (33, true) } := by kernel_rfl
theorem ho9_36 : ops9[36]? = some { dst := some 101, op := Op.load 40 (Operand.tmp 4), type := 40, pos := "law.go:92", after := #[{ on := 33, ground := Ground.guard }], guard := some (33, true) } := by kernel_rfl
theorem ho9_37 : ops9[37]? = some { dst := some 102, op := Op.buildSlice 38 3 #[(0, Operand.tmp 99), (1, Operand.tmp 100), (2, Operand.tmp 101)], type := 38, pos := "law.go:92", after := #[{ on := 34, ground := Ground.data }, { on := 35, ground := Ground.data }, { on := 36, ground := Ground.data }, { on := 33, ground := Ground.guard }], guard := some (33, true) } := by kernel_rfl
theorem ho9_38 : ops9[38]? = some { dst := some 103, op := Op.call { callee := Callee.value (Operand.func 29), args := #[Operand.const (Value.int IntKind.i64 2), Operand.tmp 102], argTypes := #[3, 38] }, type := 40, pos := "law.go:92", after := #[{ on := 37, ground := Ground.data }, { on := 33, ground := Ground.chain }, { on := 33, ground := Ground.guard }], guard := some (33, true) } := by kernel_rfl
theorem ho9_39 : ops9[39]? = some { dst := some 104, op := Op.load 42 (Operand.tmp 7), type := 42, pos := "law.go:92", after := #[{ on := 33, ground := Ground.guard }], guard := some (33, true) } := by kernel_rfl
theorem ho9_40 : ops9[40]? = some { dst := some 105, op := Op.call { callee := Callee.value (Operand.func 30), args := #[Operand.tmp 103, Operand.tmp 104], argTypes := #[40, 42] }, type := 4, pos := "law.go:92", after := #[{ on := 38, ground := Ground.data }, { on := 39, ground := Ground.data }, { on := 38, ground := Ground.chain }, { on := 33, ground := Ground.guard }], guard := some (33, true) } := by kernel_rfl
theorem ho9_41 : ops9[41]? = some { dst := some 106, op := Op.move (Operand.tmp 8), type := 4, pos := "law.go:92", after := #[{ on := 33, ground := Ground.guard }], guard := some (33, true) } := by kernel_rfl
theorem ho9_42 : ops9[42]? = some { dst := some 107, op := Op.move (Operand.tmp 106), type := 4, pos := "law.go:92", after := #[{ on := 41, ground := Ground.data }, { on := 40, ground := Ground.chain }, { on := 33, ground := Ground.guard }], guard := some (33, true) } := by kernel_rfl
theorem ho9_43 : ops9[43]? = some { dst := some 108, op := Op.move (Operand.tmp 9), type := 4, pos := "law.go:92", after := #[{ on := 42, ground := Ground.guard }], guard := some (42, true) } := by kernel_rfl
theorem ho9_44 : ops9[44]? = some { dst := some 109, op := Op.pick (Operand.tmp 107) (Operand.tmp 108) (Operand.const (Value.bool false)), type := 4, pos := "law.go:92", after := #[{ on := 42, ground := Ground.data }, { on := 43, ground := Ground.data }, { on := 33, ground := Ground.guard }], guard := some (33, true) } := by kernel_rfl
theorem ho9_45 : ops9[45]? = some { dst := some 110, op := Op.binOp BinOp.eql 4 (Operand.tmp 105) (Operand.tmp 109) 4, type := 4, pos := "law.go:92", after := #[{ on := 40, ground := Ground.data }, { on := 44, ground := Ground.data }, { on := 33, ground := Ground.guard }], guard := some (33, true) } := by kernel_rfl
theorem ho9_46 : ops9[46]? = some { dst := some 111, op := Op.pick (Operand.tmp 98) (Operand.tmp 110) (Operand.const (Value.bool false)), type := 4, pos := "law.go:92", after := #[{ on := 33, ground := Ground.data }, { on := 45, ground := Ground.data }], guard := none } := by kernel_rfl
theorem ho9_47 : ops9[47]? = some { dst := some 112, op := Op.move (Operand.tmp 111), type := 4, pos := "law.go:92", after := #[{ on := 46, ground := Ground.data }, { on := 42, ground := Ground.chain }], guard := none } := by kernel_rfl
theorem ho9_48 : ops9[48]? = some { dst := some 113, op := Op.load 40 (Operand.tmp 4), type := 40, pos := "law.go:92", after := #[{ on := 47, ground := Ground.guard }], guard := some (47, true) } := by kernel_rfl
theorem ho9_49 : ops9[49]? = some { dst := some 114, op := Op.load 40 (Operand.tmp 3), type := 40, pos := "law.go:92", after := #[{ on := 47, ground := Ground.guard }], guard := some (47, true) } := by kernel_rfl
theorem ho9_50 : ops9[50]? = some { dst := some 115, op := Op.load 40 (Operand.tmp 4), type := 40, pos := "law.go:92", after := #[{ on := 47, ground := Ground.guard }], guard := some (47, true) } := by kernel_rfl
theorem ho9_51 : ops9[51]? = some { dst := some 116, op := Op.buildSlice 38 3 #[(0, Operand.tmp 113), (1, Operand.tmp 114), (2, Operand.tmp 115)], type := 38, pos := "law.go:92", after := #[{ on := 48, ground := Ground.data }, { on := 49, ground := Ground.data }, { on := 50, ground := Ground.data }, { on := 47, ground := Ground.guard }], guard := some (47, true) } := by kernel_rfl
theorem ho9_52 : ops9[52]? = some { dst := some 117, op := Op.call { callee := Callee.value (Operand.func 29), args := #[Operand.const (Value.int IntKind.i64 3), Operand.tmp 116], argTypes := #[3, 38] }, type := 40, pos := "law.go:92", after := #[{ on := 51, ground := Ground.data }, { on := 47, ground := Ground.chain }, { on := 47, ground := Ground.guard }], guard := some (47, true) } := by kernel_rfl
theorem ho9_53 : ops9[53]? = some { dst := some 118, op := Op.load 42 (Operand.tmp 7), type := 42, pos := "law.go:92", after := #[{ on := 47, ground := Ground.guard }], guard := some (47, true) } := by kernel_rfl
theorem ho9_54 : ops9[54]? = some { dst := some 119, op := Op.call { callee := Callee.value (Operand.func 30), args := #[Operand.tmp 117, Operand.tmp 118], argTypes := #[40, 42] }, type := 4, pos := "law.go:92", after := #[{ on := 52, ground := Ground.data }, { on := 53, ground := Ground.data }, { on := 52, ground := Ground.chain }, { on := 47, ground := Ground.guard }], guard := some (47, true) } := by kernel_rfl
theorem ho9_55 : ops9[55]? = some { dst := some 120, op := Op.move (Operand.tmp 8), type := 4, pos := "law.go:92", after := #[{ on := 47, ground := Ground.guard }], guard := some (47, true) } := by kernel_rfl
theorem ho9_56 : ops9[56]? = some { dst := some 121, op := Op.move (Operand.tmp 120), type := 4, pos := "law.go:92", after := #[{ on := 55, ground := Ground.data }, { on := 54, ground := Ground.chain }, { on := 47, ground := Ground.guard }], guard := some (47, true) } := by kernel_rfl
theorem ho9_57 : ops9[57]? = some { dst := some 122, op := Op.move (Operand.tmp 9), type := 4, pos := "law.go:92", after := #[{ on := 56, ground := Ground.guard }], guard := some (56, false) } := by kernel_rfl
theorem ho9_58 : ops9[58]? = some { dst := some 123, op := Op.pick (Operand.tmp 121) (Operand.const (Value.bool true)) (Operand.tmp 122), type := 4, pos := "law.go:92", after := #[{ on := 56, ground := Ground.data }, { on := 57, ground := Ground.data }, { on := 47, ground := Ground.guard }], guard := some (47, true) } := by kernel_rfl
theorem ho9_59 : ops9[59]? = some { dst := some 124, op := Op.binOp BinOp.eql 4 (Operand.tmp 119) (Operand.tmp 123) 4, type := 4, pos := "law.go:92", after := #[{ on := 54, ground := Ground.data }, { on := 58, ground := Ground.data }, { on := 47, ground := Ground.guard }], guard := some (47, true) } := by kernel_rfl
theorem ho9_60 : ops9[60]? = some { dst := some 125, op := Op.pick (Operand.tmp 112) (Operand.tmp 124) (Operand.const (Value.bool false)), type := 4, pos := "law.go:92", after := #[{ on := 47, ground := Ground.data }, { on := 59, ground := Ground.data }], guard := none } := by kernel_rfl
theorem ho9_61 : ops9[61]? = some { dst := some 126, op := Op.move (Operand.tmp 125), type := 4, pos := "law.go:92", after := #[{ on := 60, ground := Ground.data }, { on := 56, ground := Ground.chain }], guard := none } := by kernel_rfl
theorem ho9_62 : ops9[62]? = some { dst := some 127, op := Op.load 40 (Operand.tmp 3), type := 40, pos := "law.go:92", after := #[{ on := 61, ground := Ground.guard }], guard := some (61, true) } := by kernel_rfl
theorem ho9_63 : ops9[63]? = some { dst := some 128, op := Op.load 40 (Operand.tmp 4), type := 40, pos := "law.go:92", after := #[{ on := 61, ground := Ground.guard }], guard := some (61, true) } := by kernel_rfl
theorem ho9_64 : ops9[64]? = some { dst := some 129, op := Op.buildSlice 38 2 #[(0, Operand.tmp 127), (1, Operand.tmp 128)], type := 38, pos := "law.go:92", after := #[{ on := 62, ground := Ground.data }, { on := 63, ground := Ground.data }, { on := 61, ground := Ground.guard }], guard := some (61, true) } := by kernel_rfl
theorem ho9_65 : ops9[65]? = some { dst := some 130, op := Op.call { callee := Callee.value (Operand.func 29), args := #[Operand.const (Value.int IntKind.i64 2), Operand.tmp 129], argTypes := #[3, 38] }, type := 40, pos := "law.go:92", after := #[{ on := 64, ground := Ground.data }, { on := 61, ground := Ground.chain }, { on := 61, ground := Ground.guard }], guard := some (61, true) } := by kernel_rfl
theorem ho9_66 : ops9[66]? = some { dst := some 131, op := Op.call { callee := Callee.value (Operand.func 28), args := #[Operand.tmp 130], argTypes := #[40] }, type := 40, pos := "law.go:92", after := #[{ on := 65, ground := Ground.data }, { on := 65, ground := Ground.chain }, { on := 61, ground := Ground.guard }], guard := some (61, true) } := by kernel_rfl
theorem ho9_67 : ops9[67]? = some { dst := some 132, op := Op.load 42 (Operand.tmp 7), type := 42, pos := "law.go:92", after := #[{ on := 61, ground := Ground.guard }], guard := some (61, true) } := by kernel_rfl
theorem ho9_68 : ops9[68]? = some { dst := some 133, op := Op.call { callee := Callee.value (Operand.func 30), args := #[Operand.tmp 131, Operand.tmp 132], argTypes := #[40, 42] }, type := 4, pos := "law.go:92", after := #[{ on := 66, ground := Ground.data }, { on := 67, ground := Ground.data }, { on := 66, ground := Ground.chain }, { on := 61, ground := Ground.guard }], guard := some (61, true) } := by kernel_rfl
theorem ho9_69 : ops9[69]? = some { dst := some 134, op := Op.load 40 (Operand.tmp 3), type := 40, pos := "law.go:92", after := #[{ on := 61, ground := Ground.guard }], guard := some (61, true) } := by kernel_rfl
theorem ho9_70 : ops9[70]? = some { dst := some 135, op := Op.call { callee := Callee.value (Operand.func 28), args := #[Operand.tmp 134], argTypes := #[40] }, type := 40, pos := "law.go:92", after := #[{ on := 69, ground := Ground.data }, { on := 68, ground := Ground.chain }, { on := 61, ground := Ground.guard }], guard := some (61, true) } := by kernel_rfl
theorem ho9_71 : ops9[71]? = some { dst := some 136, op := Op.load 40 (Operand.tmp 4), type := 40, pos := "law.go:92", after := #[{ on := 61, ground := Ground.guard }], guard := some (61, true) } := by kernel_rfl
theorem ho9_72 : ops9[72]? = some { dst := some 137, op := Op.call { callee := Callee.value (Operand.func 28), args := #[Operand.tmp 136], argTypes := #[40] }, type := 40, pos := "law.go:92", after := #[{ on := 71, ground := Ground.data }, { on := 70, ground := Ground.chain }, { on := 61, ground := Ground.guard }], guard := some (61, true) } := by kernel_rfl
theorem ho9_73 : ops9[73]? = some { dst := some 138, op := Op.buildSlice 38 2 #[(0, Operand.tmp 135), (1, Operand.tmp 137)], type := 38, pos := "law.go:92", after := #[{ on := 70, ground := Ground.data }, { on := 72, ground := Ground.data }, { on := 61, ground := Ground.guard }], guard := some (61, true) } := by kernel_rfl
theorem ho9_74 : ops9[74]? = some { dst := some 139, op := Op.call { callee := Callee.value (Operand.func 29), args := #[Operand.const (Value.int IntKind.i64 3), Operand.tmp 138], argTypes := #[3, 38] }, type := 40, pos := "law.go:92", after := #[{ on := 73, ground := Ground.data }, { on := 72, ground := Ground.chain }, { on := 61, ground := Ground.guard }], guard := some (61, true) } := by kernel_rfl
theorem ho9_75 : ops9[75]? = some { dst := some 140, op := Op.load 42 (Operand.tmp 7), type := 42, pos := "law.go:92", after := #[{ on := 61, ground := Ground.guard }], guard := some (61, true) } := by kernel_rfl
theorem ho9_76 : ops9[76]? = some { dst := some 141, op := Op.call { callee := Callee.value (Operand.func 30), args := #[Operand.tmp 139, Operand.tmp 140], argTypes := #[40, 42] }, type := 4, pos := "law.go:92", after := #[{ on := 74, ground := Ground.data }, { on := 75, ground := Ground.data }, { on := 74, ground := Ground.chain }, { on := 61, ground := Ground.guard }], guard := some (61, true) } := by kernel_rfl
theorem ho9_77 : ops9[77]? = some { dst := some 142, op := Op.binOp BinOp.eql 4 (Operand.tmp 133) (Operand.tmp 141) 4, type := 4, pos := "law.go:92", after := #[{ on := 68, ground := Ground.data }, { on := 76, ground := Ground.data }, { on := 61, ground := Ground.guard }], guard := some (61, true) } := by kernel_rfl
theorem ho9_78 : ops9[78]? = some { dst := some 143, op := Op.pick (Operand.tmp 126) (Operand.tmp 142) (Operand.const (Value.bool false)), type := 4, pos := "law.go:92", after := #[{ on := 61, ground := Ground.data }, { on := 77, ground := Ground.data }], guard := none } := by kernel_rfl
theorem ho9_79 : ops9[79]? = some { dst := some 144, op := Op.move (Operand.tmp 143), type := 4, pos := "law.go:92", after := #[{ on := 78, ground := Ground.data }, { on := 76, ground := Ground.chain }], guard := none } := by kernel_rfl
theorem ho9_80 : ops9[80]? = some { dst := some 145, op := Op.load 40 (Operand.tmp 3), type := 40, pos := "law.go:92", after := #[{ on := 79, ground := Ground.guard }], guard := some (79, true) } := by kernel_rfl
theorem ho9_81 : ops9[81]? = some { dst := some 146, op := Op.buildSlice 38 1 #[(0, Operand.tmp 145)], type := 38, pos := "law.go:92", after := #[{ on := 80, ground := Ground.data }, { on := 79, ground := Ground.guard }], guard := some (79, true) } := by kernel_rfl
theorem ho9_82 : ops9[82]? = some { dst := some 147, op := Op.call { callee := Callee.value (Operand.func 29), args := #[Operand.const (Value.int IntKind.i64 2), Operand.tmp 146], argTypes := #[3, 38] }, type := 40, pos := "law.go:92", after := #[{ on := 81, ground := Ground.data }, { on := 79, ground := Ground.chain }, { on := 79, ground := Ground.guard }], guard := some (79, true) } := by kernel_rfl
theorem ho9_83 : ops9[83]? = some { dst := some 148, op := Op.load 42 (Operand.tmp 7), type := 42, pos := "law.go:92", after := #[{ on := 79, ground := Ground.guard }], guard := some (79, true) } := by kernel_rfl
theorem ho9_84 : ops9[84]? = some { dst := some 149, op := Op.call { callee := Callee.value (Operand.func 30), args := #[Operand.tmp 147, Operand.tmp 148], argTypes := #[40, 42] }, type := 4, pos := "law.go:92", after := #[{ on := 82, ground := Ground.data }, { on := 83, ground := Ground.data }, { on := 82, ground := Ground.chain }, { on := 79, ground := Ground.guard }], guard := some (79, true) } := by kernel_rfl
theorem ho9_85 : ops9[85]? = some { dst := some 150, op := Op.move (Operand.tmp 8), type := 4, pos := "law.go:92", after := #[{ on := 79, ground := Ground.guard }], guard := some (79, true) } := by kernel_rfl
theorem ho9_86 : ops9[86]? = some { dst := some 151, op := Op.binOp BinOp.eql 4 (Operand.tmp 149) (Operand.tmp 150) 4, type := 4, pos := "law.go:92", after := #[{ on := 84, ground := Ground.data }, { on := 85, ground := Ground.data }, { on := 79, ground := Ground.guard }], guard := some (79, true) } := by kernel_rfl
theorem ho9_87 : ops9[87]? = some { dst := some 152, op := Op.pick (Operand.tmp 144) (Operand.tmp 151) (Operand.const (Value.bool false)), type := 4, pos := "law.go:92", after := #[{ on := 79, ground := Ground.data }, { on := 86, ground := Ground.data }], guard := none } := by kernel_rfl
theorem ho9_88 : ops9[88]? = some { dst := some 6, op := Op.assign (Operand.tmp 152), type := 4, pos := "law.go:92", after := ([{ on := 87, ground := Ground.data }, { on := 84, ground := Ground.chain }, { on := 0, ground := Ground.phase }, { on := 1, ground := Ground.phase }, { on := 2, ground := Ground.phase }, { on := 3, ground := Ground.phase }, { on := 4, ground := Ground.phase }, { on := 5, ground := Ground.phase }, { on := 6, ground := Ground.phase }, { on := 7, ground := Ground.phase }, { on := 8, ground := Ground.phase }, { on := 9, ground := Ground.phase }, { on := 10, ground := Ground.phase }, { on := 11, ground := Ground.phase }, { on := 12, ground := Ground.phase }, { on := 13, ground := Ground.phase }, { on := 14, ground := Ground.phase }, { on := 15, ground := Ground.phase }, { on := 16, ground := Ground.phase }, { on := 17, ground := Ground.phase }, { on := 18, ground := Ground.phase }, { on := 19, ground := Ground.phase }, { on := 20, ground := Ground.phase }, { on := 21, ground := Ground.phase }, { on := 22, ground := Ground.phase }, { on := 23, ground := Ground.phase }, { on := 24, ground := Ground.phase }, { on := 25, ground := Ground.phase }, { on := 26, ground := Ground.phase }, { on := 27, ground := Ground.phase }, { on := 28, ground := Ground.phase }, { on := 29, ground := Ground.phase }, { on := 30, ground := Ground.phase }, { on := 31, ground := Ground.phase }, { on := 32, ground := Ground.phase }, { on := 33, ground := Ground.phase }, { on := 34, ground := Ground.phase }, { on := 35, ground := Ground.phase }, { on := 36, ground := Ground.phase }, { on := 37, ground := Ground.phase }, { on := 38, ground := Ground.phase }, { on := 39, ground := Ground.phase }, { on := 40, ground := Ground.phase }, { on := 41, ground := Ground.phase }, { on := 42, ground := Ground.phase }].append [{ on := 43, ground := Ground.phase }, { on := 44, ground := Ground.phase }, { on := 45, ground := Ground.phase }, { on := 46, ground := Ground.phase }, { on := 47, ground := Ground.phase }, { on := 48, ground := Ground.phase }, { on := 49, ground := Ground.phase }, { on := 50, ground := Ground.phase }, { on := 51, ground := Ground.phase }, { on := 52, ground := Ground.phase }, { on := 53, ground := Ground.phase }, { on := 54, ground := Ground.phase }, { on := 55, ground := Ground.phase }, { on := 56, ground := Ground.phase }, { on := 57, ground := Ground.phase }, { on := 58, ground := Ground.phase }, { on := 59, ground := Ground.phase }, { on := 60, ground := Ground.phase }, { on := 61, ground := Ground.phase }, { on := 62, ground := Ground.phase }, { on := 63, ground := Ground.phase }, { on := 64, ground := Ground.phase }, { on := 65, ground := Ground.phase }, { on := 66, ground := Ground.phase }, { on := 67, ground := Ground.phase }, { on := 68, ground := Ground.phase }, { on := 69, ground := Ground.phase }, { on := 70, ground := Ground.phase }, { on := 71, ground := Ground.phase }, { on := 72, ground := Ground.phase }, { on := 73, ground := Ground.phase }, { on := 74, ground := Ground.phase }, { on := 75, ground := Ground.phase }, { on := 76, ground := Ground.phase }, { on := 77, ground := Ground.phase }, { on := 78, ground := Ground.phase }, { on := 79, ground := Ground.phase }, { on := 80, ground := Ground.phase }, { on := 81, ground := Ground.phase }, { on := 82, ground := Ground.phase }, { on := 83, ground := Ground.phase }, { on := 84, ground := Ground.phase }, { on := 85, ground := Ground.phase }, { on := 86, ground := Ground.phase }, { on := 87, ground := Ground.phase }]).toArray, guard := none } := by kernel_rfl
set_option maxHeartbeats 40000000 in
set_option maxRecDepth 100000 in
theorem log9tq (V : World) (ba bb be : Nat) (a b : Cd) (pa pb : Option Addr) (ca cb : Nat) (x1 x2 x3 : Int) (q : Bool) (HX : ∀ w', Below V.heap.size V w' → w'.cell? ⟨ba, 0, none⟩ = some (.int .i64 a.k) ∧ w'.cell? ⟨ba, 1, none⟩ = some (.int .i64 a.v) ∧ w'.cell? ⟨ba, 2, none⟩ = some (.int .i64 a.n) ∧ w'.cell? ⟨ba, 3, none⟩ = some (.slice pa a.ps.length ca) ∧ w'.cell? ⟨bb, 0, none⟩ = some (.int .i64 b.k) ∧ w'.cell? ⟨bb, 1, none⟩ = some (.int .i64 b.v) ∧ w'.cell? ⟨bb, 2, none⟩ = some (.int .i64 b.n) ∧ w'.cell? ⟨bb, 3, none⟩ = some (.slice pb b.ps.length cb) ∧ w'.cell? ⟨be, 0, none⟩ = some (.int .i64 x1) ∧ w'.cell? ⟨be, 1, none⟩ = some (.int .i64 x2) ∧ w'.cell? ⟨be, 2, none⟩ = some (.int .i64 x3) ∧ Hid (Below V.heap.size V w'))
    (HVa : ∀ W, Below V.heap.size V W → VIn W (.agg #[.int .i64 a.k, .int .i64 a.v, .int .i64 a.n, .slice pa a.ps.length ca]) a) (HVb : ∀ W, Below V.heap.size V W → VIn W (.agg #[.int .i64 b.k, .int .i64 b.v, .int .i64 b.n, .slice pb b.ps.length cb]) b) (E1 : holdB (notC a) ⟨x1, x2, x3⟩ = false) (E2 : holdB (joinC 2 [a, b]) ⟨x1, x2, x3⟩ = q) (E3 : holdB (joinC 3 [a, b]) ⟨x1, x2, x3⟩ = true) (E4 : holdB (joinC 2 [b, a, b]) ⟨x1, x2, x3⟩ = q) (E5 : holdB (joinC 3 [b, a, b]) ⟨x1, x2, x3⟩ = true) (E6 : holdB (notC (joinC 2 [a, b])) ⟨x1, x2, x3⟩ = (!q)) (E7 : holdB (joinC 3 [notC a, notC b]) ⟨x1, x2, x3⟩ = (!q)) (E8 : holdB (joinC 2 [a]) ⟨x1, x2, x3⟩ = true)
    {Q : Exit → Act → World → Prop} (hQ0 : ∀ c a d v w, Q (.panic c) (Act.put a d v) w → Q (.panic c) a w) (w : World) (hbw : Below V.heap.size V w) (u0 u1 u2 u5 u6 u10 u11 u12 u13 u14 u15 u16 u17 u18 u19 u20 u21 u22 u23 u24 u25 u26 u27 u28 u29 u30 u31 u32 u33 u34 u35 u36 u37 u38 u39 u40 u41 u42 u43 u44 u45 u46 u47 u48 u49 u50 u51 u52 u53 u54 u55 u56 u57 u58 u59 u60 u61 u62 u63 u64 u65 u66 u67 u68 u69 u70 u71 u72 u73 u74 u75 u76 u77 u78 u79 u80 u81 u82 u83 u84 u85 u86 u87 u88 u89 u90 u91 u92 u93 u94 u95 u96 u97 u98 u99 u100 u101 u102 u103 u104 u105 u106 u107 u108 u109 u110 u111 u112 u113 u114 u115 u116 u117 u118 u119 u120 u121 u122 u123 u124 u125 u126 u127 u128 u129 u130 u131 u132 u133 u134 u135 u136 u137 u138 u139 u140 u141 u142 u143 u144 u145 u146 u147 u148 u149 u150 u151 u152 : Value)
    (hEnd : ∀ (z65 z66 z67 z68 z69 z70 z71 z72 z73 z74 z75 z76 z77 z78 z79 z80 z81 z82 z83 z84 z85 z86 z87 z88 z89 z90 z91 z92 z93 z94 z95 z96 z97 z98 z99 z100 z101 z102 z103 z104 z105 z106 z107 z108 z109 z110 z111 z112 z113 z114 z115 z116 z117 z118 z119 z120 z121 z122 z123 z124 z125 z126 z127 z128 z129 z130 z131 z132 z133 z134 z135 z136 z137 z138 z139 z140 z141 z142 z143 z144 z145 z146 z147 z148 z149 z150 z151 z152 : Value) (w' : World), Below V.heap.size V w' → Q .normal ⟨#[u0, u1, u2, .pointer (some ⟨ba, 0, none⟩), .pointer (some ⟨bb, 0, none⟩), u5, .bool true, .pointer (some ⟨be, 0, none⟩), .bool true, .bool q, u10, u11, u12, u13, u14, u15, u16, u17, u18, u19, u20, u21, u22, u23, u24, u25, u26, u27, u28, u29, u30, u31, u32, u33, u34, u35, u36, u37, u38, u39, u40, u41, u42, u43, u44, u45, u46, u47, u48, u49, u50, u51, u52, u53, u54, u55, u56, u57, u58, u59, u60, u61, u62, u63, u64, z65, z66, z67, z68, z69, z70, z71, z72, z73, z74, z75, z76, z77, z78, z79, z80, z81, z82, z83, z84, z85, z86, z87, z88, z89, z90, z91, z92, z93, z94, z95, z96, z97, z98, z99, z100, z101, z102, z103, z104, z105, z106, z107, z108, z109, z110, z111, z112, z113, z114, z115, z116, z117, z118, z119, z120, z121, z122, z123, z124, z125, z126, z127, z128, z129, z130, z131, z132, z133, z134, z135, z136, z137, z138, z139, z140, z141, z142, z143, z144, z145, z146, z147, z148, z149, z150, z151, z152], []⟩ w') :
    (Code.region 9 ops9 true).wp Tryz.prog Q ⟨#[u0, u1, u2, .pointer (some ⟨ba, 0, none⟩), .pointer (some ⟨bb, 0, none⟩), u5, u6, .pointer (some ⟨be, 0, none⟩), .bool true, .bool q, u10, u11, u12, u13, u14, u15, u16, u17, u18, u19, u20, u21, u22, u23, u24, u25, u26, u27, u28, u29, u30, u31, u32, u33, u34, u35, u36, u37, u38, u39, u40, u41, u42, u43, u44, u45, u46, u47, u48, u49, u50, u51, u52, u53, u54, u55, u56, u57, u58, u59, u60, u61, u62, u63, u64, u65, u66, u67, u68, u69, u70, u71, u72, u73, u74, u75, u76, u77, u78, u79, u80, u81, u82, u83, u84, u85, u86, u87, u88, u89, u90, u91, u92, u93, u94, u95, u96, u97, u98, u99, u100, u101, u102, u103, u104, u105, u106, u107, u108, u109, u110, u111, u112, u113, u114, u115, u116, u117, u118, u119, u120, u121, u122, u123, u124, u125, u126, u127, u128, u129, u130, u131, u132, u133, u134, u135, u136, u137, u138, u139, u140, u141, u142, u143, u144, u145, u146, u147, u148, u149, u150, u151, u152], []⟩ w := by
  refine region_plan (S := fun w' => w'.cell? ⟨ba, 0, none⟩ = some (.int .i64 a.k) ∧ w'.cell? ⟨ba, 1, none⟩ = some (.int .i64 a.v) ∧ w'.cell? ⟨ba, 2, none⟩ = some (.int .i64 a.n) ∧ w'.cell? ⟨ba, 3, none⟩ = some (.slice pa a.ps.length ca) ∧ w'.cell? ⟨bb, 0, none⟩ = some (.int .i64 b.k) ∧ w'.cell? ⟨bb, 1, none⟩ = some (.int .i64 b.v) ∧ w'.cell? ⟨bb, 2, none⟩ = some (.int .i64 b.n) ∧ w'.cell? ⟨bb, 3, none⟩ = some (.slice pb b.ps.length cb) ∧ w'.cell? ⟨be, 0, none⟩ = some (.int .i64 x1) ∧ w'.cell? ⟨be, 1, none⟩ = some (.int .i64 x2) ∧ w'.cell? ⟨be, 2, none⟩ = some (.int .i64 x3) ∧ Hid (Below V.heap.size V w')) (by kernel_rfl) sel9 hQ0 plan9 len9 ok9 (HX _ (by repeat (first | exact Below.refl _ _ | refine balloc ?_ _ | refine bdrew ?_ | refine bup ?_ (by assumption)))) ?_
  unfold plan9
  refine seq_take (v := ?v0) ho9_0 (by rfl) ?hv0 ?rest0
  case hv0 => (intro w hSw; obtain ⟨h0, h1, h2, h3, h4, h5, h6, h7, h8, h9, h10, -⟩ := hSw; go_simp; try rfl)
  try simp only [Act.put, List.setIfInBounds_toArray, List.set_cons_zero, List.set_cons_succ]
  refine seq_take (v := ?v2) ho9_2 (by rfl) ?hv2 ?rest2
  case hv2 => (intro w hSw; obtain ⟨h0, h1, h2, h3, h4, h5, h6, h7, h8, h9, h10, -⟩ := hSw; go_simp; try rfl)
  try simp only [Act.put, List.setIfInBounds_toArray, List.set_cons_zero, List.set_cons_succ]
  refine seq_take (v := ?v4) ho9_4 (by rfl) ?hv4 ?rest4
  case hv4 => (intro w _; go_simp; try rfl)
  try simp only [Act.put, List.setIfInBounds_toArray, List.set_cons_zero, List.set_cons_succ]
  refine seq_take (v := ?v5) ho9_5 (by rfl) ?hv5 ?rest5
  case hv5 => (intro w _; go_simp; try rfl)
  try simp only [Act.put, List.setIfInBounds_toArray, List.set_cons_zero, List.set_cons_succ]
  refine seq_run ho9_1 (by rfl) (fun K hK => ?_)
  go_simp
  go_at_call 28
  (with_reducible refine (not_V (by first | exact HVa _ (by repeat (first | exact Below.refl _ _ | refine balloc ?_ _ | refine bdrew ?_ | refine bup ?_ (by assumption))) | exact HVb _ (by repeat (first | exact Below.refl _ _ | refine balloc ?_ _ | refine bdrew ?_ | refine bup ?_ (by assumption))) | assumption | exact VIn.up (by assumption) (by repeat (first | exact Below.refl _ _ | refine balloc ?_ _ | refine bdrew ?_ | refine bup ?_ (by assumption))))).mono ?_)
  rintro e wn ⟨g, rfl, hvn, hbn⟩
  refine hK.out _ _ (HX _ (by repeat (first | exact Below.refl _ _ | refine balloc ?_ _ | refine bdrew ?_ | refine bup ?_ (by assumption)))) (fun _ => ?_)
  try simp only [Act.put, List.setIfInBounds_toArray, List.set_cons_zero, List.set_cons_succ]
  clear hK K
  refine seq_run ho9_3 (by rfl) (fun K hK => ?_)
  go_simp
  go_at_call 30
  (with_reducible refine (holds_W (by first | exact HVa _ (by repeat (first | exact Below.refl _ _ | refine balloc ?_ _ | refine bdrew ?_ | refine bup ?_ (by assumption))) | exact HVb _ (by repeat (first | exact Below.refl _ _ | refine balloc ?_ _ | refine bdrew ?_ | refine bup ?_ (by assumption))) | assumption | exact VIn.up (by assumption) (by repeat (first | exact Below.refl _ _ | refine balloc ?_ _ | refine bdrew ?_ | refine bup ?_ (by assumption)))) x1 x2 x3).mono ?_)
  rintro e wh ⟨he, hbh⟩
  rw [E1] at he
  subst he
  refine hK.out _ _ (HX _ (by repeat (first | exact Below.refl _ _ | refine balloc ?_ _ | refine bdrew ?_ | refine bup ?_ (by assumption)))) (fun _ => ?_)
  try simp only [Act.put, List.setIfInBounds_toArray, List.set_cons_zero, List.set_cons_succ]
  clear hK K
  refine seq_take (v := ?v6) ho9_6 (by rfl) ?hv6 ?rest6
  case hv6 => (intro w _; go_simp; try rfl)
  try simp only [Act.put, List.setIfInBounds_toArray, List.set_cons_zero, List.set_cons_succ]
  refine seq_take (v := ?v7) ho9_7 (by rfl) ?hv7 ?rest7
  case hv7 => (intro w _; go_simp; try rfl)
  try simp only [Act.put, List.setIfInBounds_toArray, List.set_cons_zero, List.set_cons_succ]
  refine seq_take (v := ?v8) ho9_8 (by rfl) ?hv8 ?rest8
  case hv8 => (intro w hSw; obtain ⟨h0, h1, h2, h3, h4, h5, h6, h7, h8, h9, h10, -⟩ := hSw; go_simp; try rfl)
  try simp only [Act.put, List.setIfInBounds_toArray, List.set_cons_zero, List.set_cons_succ]
  refine seq_take (v := ?v9) ho9_9 (by rfl) ?hv9 ?rest9
  case hv9 => (intro w hSw; obtain ⟨h0, h1, h2, h3, h4, h5, h6, h7, h8, h9, h10, -⟩ := hSw; go_simp; try rfl)
  try simp only [Act.put, List.setIfInBounds_toArray, List.set_cons_zero, List.set_cons_succ]
  refine seq_take (v := ?v12) ho9_12 (by rfl) ?hv12 ?rest12
  case hv12 => (intro w hSw; obtain ⟨h0, h1, h2, h3, h4, h5, h6, h7, h8, h9, h10, -⟩ := hSw; go_simp; try rfl)
  try simp only [Act.put, List.setIfInBounds_toArray, List.set_cons_zero, List.set_cons_succ]
  refine seq_take (v := ?v14) ho9_14 (by rfl) ?hv14 ?rest14
  case hv14 => (intro w _; go_simp; try rfl)
  try simp only [Act.put, List.setIfInBounds_toArray, List.set_cons_zero, List.set_cons_succ]
  refine seq_run ho9_10 (by rfl) (fun K hK => ?_)
  go_simp
  refine hK.out _ _ (HX _ (by repeat (first | exact Below.refl _ _ | refine balloc ?_ _ | refine bdrew ?_ | refine bup ?_ (by assumption)))) (fun _ => ?_)
  try simp only [Act.put, List.setIfInBounds_toArray, List.set_cons_zero, List.set_cons_succ]
  clear hK K
  refine seq_run ho9_11 (by rfl) (fun K hK => ?_)
  go_simp
  go_at_call 29
  (with_reducible refine (joinK_any _ _ _ _ _).mono ?_)
  rintro e wj ⟨rfl, hbj⟩
  have hv2 := VIn.upd hbj (by first | exact Or.inl rfl | exact Or.inr rfl) (blk2 (k := 2) (HVa _ (by repeat (first | exact Below.refl _ _ | refine balloc ?_ _ | refine bdrew ?_ | refine bup ?_ (by assumption)))) (HVb _ (by repeat (first | exact Below.refl _ _ | refine balloc ?_ _ | refine bdrew ?_ | refine bup ?_ (by assumption)))))
  refine hK.out _ _ (HX _ (by repeat (first | exact Below.refl _ _ | refine balloc ?_ _ | refine bdrew ?_ | refine bup ?_ (by assumption)))) (fun _ => ?_)
  try simp only [Act.put, List.setIfInBounds_toArray, List.set_cons_zero, List.set_cons_succ]
  clear hK K
  refine seq_run ho9_13 (by rfl) (fun K hK => ?_)
  go_simp
  go_at_call 30
  (with_reducible refine (holds_W (by first | exact HVa _ (by repeat (first | exact Below.refl _ _ | refine balloc ?_ _ | refine bdrew ?_ | refine bup ?_ (by assumption))) | exact HVb _ (by repeat (first | exact Below.refl _ _ | refine balloc ?_ _ | refine bdrew ?_ | refine bup ?_ (by assumption))) | assumption | exact VIn.up (by assumption) (by repeat (first | exact Below.refl _ _ | refine balloc ?_ _ | refine bdrew ?_ | refine bup ?_ (by assumption)))) x1 x2 x3).mono ?_)
  rintro e wh ⟨he, hbh⟩
  rw [E2] at he
  subst he
  refine hK.out _ _ (HX _ (by repeat (first | exact Below.refl _ _ | refine balloc ?_ _ | refine bdrew ?_ | refine bup ?_ (by assumption)))) (fun _ => ?_)
  try simp only [Act.put, List.setIfInBounds_toArray, List.set_cons_zero, List.set_cons_succ]
  clear hK K
  refine seq_take (v := ?v15) ho9_15 (by rfl) ?hv15 ?rest15
  case hv15 => (intro w _; go_simp; try rfl)
  try simp only [Act.put, List.setIfInBounds_toArray, List.set_cons_zero, List.set_cons_succ]
  refine seq_take (v := ?v16) ho9_16 (by rfl) ?hv16 ?rest16
  case hv16 => (intro w _; go_simp; try rfl)
  try simp only [Act.put, List.setIfInBounds_toArray, List.set_cons_zero, List.set_cons_succ]
  refine seq_take (v := ?v17) ho9_17 (by rfl) ?hv17 ?rest17
  case hv17 => (intro w _; go_simp; try rfl)
  try simp only [Act.put, List.setIfInBounds_toArray, List.set_cons_zero, List.set_cons_succ]
  refine seq_take (v := ?v18) ho9_18 (by rfl) ?hv18 ?rest18
  case hv18 => (intro w _; go_simp; try rfl)
  try simp only [Act.put, List.setIfInBounds_toArray, List.set_cons_zero, List.set_cons_succ]
  refine seq_take (v := ?v19) ho9_19 (by rfl) ?hv19 ?rest19
  case hv19 => (intro w _; go_simp; try rfl)
  try simp only [Act.put, List.setIfInBounds_toArray, List.set_cons_zero, List.set_cons_succ]
  refine seq_take (v := ?v20) ho9_20 (by rfl) ?hv20 ?rest20
  case hv20 => (intro w _; go_simp; try rfl)
  try simp only [Act.put, List.setIfInBounds_toArray, List.set_cons_zero, List.set_cons_succ]
  refine seq_take (v := ?v21) ho9_21 (by rfl) ?hv21 ?rest21
  case hv21 => (intro w hSw; obtain ⟨h0, h1, h2, h3, h4, h5, h6, h7, h8, h9, h10, -⟩ := hSw; go_simp; try rfl)
  try simp only [Act.put, List.setIfInBounds_toArray, List.set_cons_zero, List.set_cons_succ]
  refine seq_take (v := ?v22) ho9_22 (by rfl) ?hv22 ?rest22
  case hv22 => (intro w hSw; obtain ⟨h0, h1, h2, h3, h4, h5, h6, h7, h8, h9, h10, -⟩ := hSw; go_simp; try rfl)
  try simp only [Act.put, List.setIfInBounds_toArray, List.set_cons_zero, List.set_cons_succ]
  refine seq_take (v := ?v25) ho9_25 (by rfl) ?hv25 ?rest25
  case hv25 => (intro w hSw; obtain ⟨h0, h1, h2, h3, h4, h5, h6, h7, h8, h9, h10, -⟩ := hSw; go_simp; try rfl)
  try simp only [Act.put, List.setIfInBounds_toArray, List.set_cons_zero, List.set_cons_succ]
  refine seq_take (v := ?v27) ho9_27 (by rfl) ?hv27 ?rest27
  case hv27 => (intro w _; go_simp; try rfl)
  try simp only [Act.put, List.setIfInBounds_toArray, List.set_cons_zero, List.set_cons_succ]
  refine seq_run ho9_23 (by rfl) (fun K hK => ?_)
  go_simp
  refine hK.out _ _ (HX _ (by repeat (first | exact Below.refl _ _ | refine balloc ?_ _ | refine bdrew ?_ | refine bup ?_ (by assumption)))) (fun _ => ?_)
  try simp only [Act.put, List.setIfInBounds_toArray, List.set_cons_zero, List.set_cons_succ]
  clear hK K
  refine seq_run ho9_24 (by rfl) (fun K hK => ?_)
  go_simp
  go_at_call 29
  (with_reducible refine (joinK_any _ _ _ _ _).mono ?_)
  rintro e wj ⟨rfl, hbj⟩
  have hv3 := VIn.upd hbj (by first | exact Or.inl rfl | exact Or.inr rfl) (blk2 (k := 3) (HVa _ (by repeat (first | exact Below.refl _ _ | refine balloc ?_ _ | refine bdrew ?_ | refine bup ?_ (by assumption)))) (HVb _ (by repeat (first | exact Below.refl _ _ | refine balloc ?_ _ | refine bdrew ?_ | refine bup ?_ (by assumption)))))
  refine hK.out _ _ (HX _ (by repeat (first | exact Below.refl _ _ | refine balloc ?_ _ | refine bdrew ?_ | refine bup ?_ (by assumption)))) (fun _ => ?_)
  try simp only [Act.put, List.setIfInBounds_toArray, List.set_cons_zero, List.set_cons_succ]
  clear hK K
  refine seq_run ho9_26 (by rfl) (fun K hK => ?_)
  go_simp
  go_at_call 30
  (with_reducible refine (holds_W (by first | exact HVa _ (by repeat (first | exact Below.refl _ _ | refine balloc ?_ _ | refine bdrew ?_ | refine bup ?_ (by assumption))) | exact HVb _ (by repeat (first | exact Below.refl _ _ | refine balloc ?_ _ | refine bdrew ?_ | refine bup ?_ (by assumption))) | assumption | exact VIn.up (by assumption) (by repeat (first | exact Below.refl _ _ | refine balloc ?_ _ | refine bdrew ?_ | refine bup ?_ (by assumption)))) x1 x2 x3).mono ?_)
  rintro e wh ⟨he, hbh⟩
  rw [E3] at he
  subst he
  refine hK.out _ _ (HX _ (by repeat (first | exact Below.refl _ _ | refine balloc ?_ _ | refine bdrew ?_ | refine bup ?_ (by assumption)))) (fun _ => ?_)
  try simp only [Act.put, List.setIfInBounds_toArray, List.set_cons_zero, List.set_cons_succ]
  clear hK K
  refine seq_take (v := ?v28) ho9_28 (by rfl) ?hv28 ?rest28
  case hv28 => (intro w _; go_simp; try rfl)
  try simp only [Act.put, List.setIfInBounds_toArray, List.set_cons_zero, List.set_cons_succ]
  refine seq_skip ho9_29 (by rfl) ?_
  try simp only [Act.put, List.setIfInBounds_toArray, List.set_cons_zero, List.set_cons_succ]
  refine seq_take (v := ?v30) ho9_30 (by rfl) ?hv30 ?rest30
  case hv30 => (intro w _; go_simp; try rfl)
  try simp only [Act.put, List.setIfInBounds_toArray, List.set_cons_zero, List.set_cons_succ]
  refine seq_take (v := ?v31) ho9_31 (by rfl) ?hv31 ?rest31
  case hv31 => (intro w _; go_simp; try rfl)
  try simp only [Act.put, List.setIfInBounds_toArray, List.set_cons_zero, List.set_cons_succ]
  refine seq_take (v := ?v32) ho9_32 (by rfl) ?hv32 ?rest32
  case hv32 => (intro w _; go_simp; try rfl)
  try simp only [Act.put, List.setIfInBounds_toArray, List.set_cons_zero, List.set_cons_succ]
  refine seq_take (v := ?v33) ho9_33 (by rfl) ?hv33 ?rest33
  case hv33 => (intro w _; go_simp; try rfl)
  try simp only [Act.put, List.setIfInBounds_toArray, List.set_cons_zero, List.set_cons_succ]
  refine seq_take (v := ?v34) ho9_34 (by rfl) ?hv34 ?rest34
  case hv34 => (intro w hSw; obtain ⟨h0, h1, h2, h3, h4, h5, h6, h7, h8, h9, h10, -⟩ := hSw; go_simp; try rfl)
  try simp only [Act.put, List.setIfInBounds_toArray, List.set_cons_zero, List.set_cons_succ]
  refine seq_take (v := ?v35) ho9_35 (by rfl) ?hv35 ?rest35
  case hv35 => (intro w hSw; obtain ⟨h0, h1, h2, h3, h4, h5, h6, h7, h8, h9, h10, -⟩ := hSw; go_simp; try rfl)
  try simp only [Act.put, List.setIfInBounds_toArray, List.set_cons_zero, List.set_cons_succ]
  refine seq_take (v := ?v36) ho9_36 (by rfl) ?hv36 ?rest36
  case hv36 => (intro w hSw; obtain ⟨h0, h1, h2, h3, h4, h5, h6, h7, h8, h9, h10, -⟩ := hSw; go_simp; try rfl)
  try simp only [Act.put, List.setIfInBounds_toArray, List.set_cons_zero, List.set_cons_succ]
  refine seq_take (v := ?v39) ho9_39 (by rfl) ?hv39 ?rest39
  case hv39 => (intro w hSw; obtain ⟨h0, h1, h2, h3, h4, h5, h6, h7, h8, h9, h10, -⟩ := hSw; go_simp; try rfl)
  try simp only [Act.put, List.setIfInBounds_toArray, List.set_cons_zero, List.set_cons_succ]
  refine seq_take (v := ?v41) ho9_41 (by rfl) ?hv41 ?rest41
  case hv41 => (intro w _; go_simp; try rfl)
  try simp only [Act.put, List.setIfInBounds_toArray, List.set_cons_zero, List.set_cons_succ]
  refine seq_run ho9_37 (by rfl) (fun K hK => ?_)
  go_simp
  refine hK.out _ _ (HX _ (by repeat (first | exact Below.refl _ _ | refine balloc ?_ _ | refine bdrew ?_ | refine bup ?_ (by assumption)))) (fun _ => ?_)
  try simp only [Act.put, List.setIfInBounds_toArray, List.set_cons_zero, List.set_cons_succ]
  clear hK K
  refine seq_run ho9_38 (by rfl) (fun K hK => ?_)
  go_simp
  go_at_call 29
  (with_reducible refine (joinK_any _ _ _ _ _).mono ?_)
  rintro e wj ⟨rfl, hbj⟩
  have hv2 := VIn.upd hbj (by first | exact Or.inl rfl | exact Or.inr rfl) (blk3 (k := 2) (HVb _ (by repeat (first | exact Below.refl _ _ | refine balloc ?_ _ | refine bdrew ?_ | refine bup ?_ (by assumption)))) (HVa _ (by repeat (first | exact Below.refl _ _ | refine balloc ?_ _ | refine bdrew ?_ | refine bup ?_ (by assumption)))) (HVb _ (by repeat (first | exact Below.refl _ _ | refine balloc ?_ _ | refine bdrew ?_ | refine bup ?_ (by assumption)))))
  refine hK.out _ _ (HX _ (by repeat (first | exact Below.refl _ _ | refine balloc ?_ _ | refine bdrew ?_ | refine bup ?_ (by assumption)))) (fun _ => ?_)
  try simp only [Act.put, List.setIfInBounds_toArray, List.set_cons_zero, List.set_cons_succ]
  clear hK K
  refine seq_run ho9_40 (by rfl) (fun K hK => ?_)
  go_simp
  go_at_call 30
  (with_reducible refine (holds_W (by first | exact HVa _ (by repeat (first | exact Below.refl _ _ | refine balloc ?_ _ | refine bdrew ?_ | refine bup ?_ (by assumption))) | exact HVb _ (by repeat (first | exact Below.refl _ _ | refine balloc ?_ _ | refine bdrew ?_ | refine bup ?_ (by assumption))) | assumption | exact VIn.up (by assumption) (by repeat (first | exact Below.refl _ _ | refine balloc ?_ _ | refine bdrew ?_ | refine bup ?_ (by assumption)))) x1 x2 x3).mono ?_)
  rintro e wh ⟨he, hbh⟩
  rw [E4] at he
  subst he
  refine hK.out _ _ (HX _ (by repeat (first | exact Below.refl _ _ | refine balloc ?_ _ | refine bdrew ?_ | refine bup ?_ (by assumption)))) (fun _ => ?_)
  try simp only [Act.put, List.setIfInBounds_toArray, List.set_cons_zero, List.set_cons_succ]
  clear hK K
  refine seq_take (v := ?v42) ho9_42 (by rfl) ?hv42 ?rest42
  case hv42 => (intro w _; go_simp; try rfl)
  try simp only [Act.put, List.setIfInBounds_toArray, List.set_cons_zero, List.set_cons_succ]
  refine seq_take (v := ?v43) ho9_43 (by rfl) ?hv43 ?rest43
  case hv43 => (intro w _; go_simp; try rfl)
  try simp only [Act.put, List.setIfInBounds_toArray, List.set_cons_zero, List.set_cons_succ]
  refine seq_take (v := ?v44) ho9_44 (by rfl) ?hv44 ?rest44
  case hv44 => (intro w _; go_simp; try rfl)
  try simp only [Act.put, List.setIfInBounds_toArray, List.set_cons_zero, List.set_cons_succ]
  refine seq_take (v := ?v45) ho9_45 (by rfl) ?hv45 ?rest45
  case hv45 => (intro w _; go_simp; try rfl)
  try simp only [Act.put, List.setIfInBounds_toArray, List.set_cons_zero, List.set_cons_succ]
  refine seq_take (v := ?v46) ho9_46 (by rfl) ?hv46 ?rest46
  case hv46 => (intro w _; go_simp; try rfl)
  try simp only [Act.put, List.setIfInBounds_toArray, List.set_cons_zero, List.set_cons_succ]
  refine seq_take (v := ?v47) ho9_47 (by rfl) ?hv47 ?rest47
  case hv47 => (intro w _; go_simp; try rfl)
  try simp only [Act.put, List.setIfInBounds_toArray, List.set_cons_zero, List.set_cons_succ]
  refine seq_take (v := ?v48) ho9_48 (by rfl) ?hv48 ?rest48
  case hv48 => (intro w hSw; obtain ⟨h0, h1, h2, h3, h4, h5, h6, h7, h8, h9, h10, -⟩ := hSw; go_simp; try rfl)
  try simp only [Act.put, List.setIfInBounds_toArray, List.set_cons_zero, List.set_cons_succ]
  refine seq_take (v := ?v49) ho9_49 (by rfl) ?hv49 ?rest49
  case hv49 => (intro w hSw; obtain ⟨h0, h1, h2, h3, h4, h5, h6, h7, h8, h9, h10, -⟩ := hSw; go_simp; try rfl)
  try simp only [Act.put, List.setIfInBounds_toArray, List.set_cons_zero, List.set_cons_succ]
  refine seq_take (v := ?v50) ho9_50 (by rfl) ?hv50 ?rest50
  case hv50 => (intro w hSw; obtain ⟨h0, h1, h2, h3, h4, h5, h6, h7, h8, h9, h10, -⟩ := hSw; go_simp; try rfl)
  try simp only [Act.put, List.setIfInBounds_toArray, List.set_cons_zero, List.set_cons_succ]
  refine seq_take (v := ?v53) ho9_53 (by rfl) ?hv53 ?rest53
  case hv53 => (intro w hSw; obtain ⟨h0, h1, h2, h3, h4, h5, h6, h7, h8, h9, h10, -⟩ := hSw; go_simp; try rfl)
  try simp only [Act.put, List.setIfInBounds_toArray, List.set_cons_zero, List.set_cons_succ]
  refine seq_take (v := ?v55) ho9_55 (by rfl) ?hv55 ?rest55
  case hv55 => (intro w _; go_simp; try rfl)
  try simp only [Act.put, List.setIfInBounds_toArray, List.set_cons_zero, List.set_cons_succ]
  refine seq_run ho9_51 (by rfl) (fun K hK => ?_)
  go_simp
  refine hK.out _ _ (HX _ (by repeat (first | exact Below.refl _ _ | refine balloc ?_ _ | refine bdrew ?_ | refine bup ?_ (by assumption)))) (fun _ => ?_)
  try simp only [Act.put, List.setIfInBounds_toArray, List.set_cons_zero, List.set_cons_succ]
  clear hK K
  refine seq_run ho9_52 (by rfl) (fun K hK => ?_)
  go_simp
  go_at_call 29
  (with_reducible refine (joinK_any _ _ _ _ _).mono ?_)
  rintro e wj ⟨rfl, hbj⟩
  have hv3 := VIn.upd hbj (by first | exact Or.inl rfl | exact Or.inr rfl) (blk3 (k := 3) (HVb _ (by repeat (first | exact Below.refl _ _ | refine balloc ?_ _ | refine bdrew ?_ | refine bup ?_ (by assumption)))) (HVa _ (by repeat (first | exact Below.refl _ _ | refine balloc ?_ _ | refine bdrew ?_ | refine bup ?_ (by assumption)))) (HVb _ (by repeat (first | exact Below.refl _ _ | refine balloc ?_ _ | refine bdrew ?_ | refine bup ?_ (by assumption)))))
  refine hK.out _ _ (HX _ (by repeat (first | exact Below.refl _ _ | refine balloc ?_ _ | refine bdrew ?_ | refine bup ?_ (by assumption)))) (fun _ => ?_)
  try simp only [Act.put, List.setIfInBounds_toArray, List.set_cons_zero, List.set_cons_succ]
  clear hK K
  refine seq_run ho9_54 (by rfl) (fun K hK => ?_)
  go_simp
  go_at_call 30
  (with_reducible refine (holds_W (by first | exact HVa _ (by repeat (first | exact Below.refl _ _ | refine balloc ?_ _ | refine bdrew ?_ | refine bup ?_ (by assumption))) | exact HVb _ (by repeat (first | exact Below.refl _ _ | refine balloc ?_ _ | refine bdrew ?_ | refine bup ?_ (by assumption))) | assumption | exact VIn.up (by assumption) (by repeat (first | exact Below.refl _ _ | refine balloc ?_ _ | refine bdrew ?_ | refine bup ?_ (by assumption)))) x1 x2 x3).mono ?_)
  rintro e wh ⟨he, hbh⟩
  rw [E5] at he
  subst he
  refine hK.out _ _ (HX _ (by repeat (first | exact Below.refl _ _ | refine balloc ?_ _ | refine bdrew ?_ | refine bup ?_ (by assumption)))) (fun _ => ?_)
  try simp only [Act.put, List.setIfInBounds_toArray, List.set_cons_zero, List.set_cons_succ]
  clear hK K
  refine seq_take (v := ?v56) ho9_56 (by rfl) ?hv56 ?rest56
  case hv56 => (intro w _; go_simp; try rfl)
  try simp only [Act.put, List.setIfInBounds_toArray, List.set_cons_zero, List.set_cons_succ]
  refine seq_skip ho9_57 (by rfl) ?_
  try simp only [Act.put, List.setIfInBounds_toArray, List.set_cons_zero, List.set_cons_succ]
  refine seq_take (v := ?v58) ho9_58 (by rfl) ?hv58 ?rest58
  case hv58 => (intro w _; go_simp; try rfl)
  try simp only [Act.put, List.setIfInBounds_toArray, List.set_cons_zero, List.set_cons_succ]
  refine seq_take (v := ?v59) ho9_59 (by rfl) ?hv59 ?rest59
  case hv59 => (intro w _; go_simp; try rfl)
  try simp only [Act.put, List.setIfInBounds_toArray, List.set_cons_zero, List.set_cons_succ]
  refine seq_take (v := ?v60) ho9_60 (by rfl) ?hv60 ?rest60
  case hv60 => (intro w _; go_simp; try rfl)
  try simp only [Act.put, List.setIfInBounds_toArray, List.set_cons_zero, List.set_cons_succ]
  refine seq_take (v := ?v61) ho9_61 (by rfl) ?hv61 ?rest61
  case hv61 => (intro w _; go_simp; try rfl)
  try simp only [Act.put, List.setIfInBounds_toArray, List.set_cons_zero, List.set_cons_succ]
  refine seq_take (v := ?v62) ho9_62 (by rfl) ?hv62 ?rest62
  case hv62 => (intro w hSw; obtain ⟨h0, h1, h2, h3, h4, h5, h6, h7, h8, h9, h10, -⟩ := hSw; go_simp; try rfl)
  try simp only [Act.put, List.setIfInBounds_toArray, List.set_cons_zero, List.set_cons_succ]
  refine seq_take (v := ?v63) ho9_63 (by rfl) ?hv63 ?rest63
  case hv63 => (intro w hSw; obtain ⟨h0, h1, h2, h3, h4, h5, h6, h7, h8, h9, h10, -⟩ := hSw; go_simp; try rfl)
  try simp only [Act.put, List.setIfInBounds_toArray, List.set_cons_zero, List.set_cons_succ]
  refine seq_take (v := ?v67) ho9_67 (by rfl) ?hv67 ?rest67
  case hv67 => (intro w hSw; obtain ⟨h0, h1, h2, h3, h4, h5, h6, h7, h8, h9, h10, -⟩ := hSw; go_simp; try rfl)
  try simp only [Act.put, List.setIfInBounds_toArray, List.set_cons_zero, List.set_cons_succ]
  refine seq_take (v := ?v69) ho9_69 (by rfl) ?hv69 ?rest69
  case hv69 => (intro w hSw; obtain ⟨h0, h1, h2, h3, h4, h5, h6, h7, h8, h9, h10, -⟩ := hSw; go_simp; try rfl)
  try simp only [Act.put, List.setIfInBounds_toArray, List.set_cons_zero, List.set_cons_succ]
  refine seq_take (v := ?v71) ho9_71 (by rfl) ?hv71 ?rest71
  case hv71 => (intro w hSw; obtain ⟨h0, h1, h2, h3, h4, h5, h6, h7, h8, h9, h10, -⟩ := hSw; go_simp; try rfl)
  try simp only [Act.put, List.setIfInBounds_toArray, List.set_cons_zero, List.set_cons_succ]
  refine seq_take (v := ?v75) ho9_75 (by rfl) ?hv75 ?rest75
  case hv75 => (intro w hSw; obtain ⟨h0, h1, h2, h3, h4, h5, h6, h7, h8, h9, h10, -⟩ := hSw; go_simp; try rfl)
  try simp only [Act.put, List.setIfInBounds_toArray, List.set_cons_zero, List.set_cons_succ]
  refine seq_run ho9_64 (by rfl) (fun K hK => ?_)
  go_simp
  refine hK.out _ _ (HX _ (by repeat (first | exact Below.refl _ _ | refine balloc ?_ _ | refine bdrew ?_ | refine bup ?_ (by assumption)))) (fun _ => ?_)
  try simp only [Act.put, List.setIfInBounds_toArray, List.set_cons_zero, List.set_cons_succ]
  clear hK K
  refine seq_run ho9_65 (by rfl) (fun K hK => ?_)
  go_simp
  go_at_call 29
  (with_reducible refine (joinK_any _ _ _ _ _).mono ?_)
  rintro e wj ⟨rfl, hbj⟩
  have hv2 := VIn.upd hbj (by first | exact Or.inl rfl | exact Or.inr rfl) (blk2 (k := 2) (HVa _ (by repeat (first | exact Below.refl _ _ | refine balloc ?_ _ | refine bdrew ?_ | refine bup ?_ (by assumption)))) (HVb _ (by repeat (first | exact Below.refl _ _ | refine balloc ?_ _ | refine bdrew ?_ | refine bup ?_ (by assumption)))))
  refine hK.out _ _ (HX _ (by repeat (first | exact Below.refl _ _ | refine balloc ?_ _ | refine bdrew ?_ | refine bup ?_ (by assumption)))) (fun _ => ?_)
  try simp only [Act.put, List.setIfInBounds_toArray, List.set_cons_zero, List.set_cons_succ]
  clear hK K
  refine seq_run ho9_66 (by rfl) (fun K hK => ?_)
  go_simp
  go_at_call 28
  (with_reducible refine (not_V (by first | exact HVa _ (by repeat (first | exact Below.refl _ _ | refine balloc ?_ _ | refine bdrew ?_ | refine bup ?_ (by assumption))) | exact HVb _ (by repeat (first | exact Below.refl _ _ | refine balloc ?_ _ | refine bdrew ?_ | refine bup ?_ (by assumption))) | assumption | exact VIn.up (by assumption) (by repeat (first | exact Below.refl _ _ | refine balloc ?_ _ | refine bdrew ?_ | refine bup ?_ (by assumption))))).mono ?_)
  rintro e wn ⟨g, rfl, hvn, hbn⟩
  refine hK.out _ _ (HX _ (by repeat (first | exact Below.refl _ _ | refine balloc ?_ _ | refine bdrew ?_ | refine bup ?_ (by assumption)))) (fun _ => ?_)
  try simp only [Act.put, List.setIfInBounds_toArray, List.set_cons_zero, List.set_cons_succ]
  clear hK K
  refine seq_run ho9_68 (by rfl) (fun K hK => ?_)
  go_simp
  go_at_call 30
  (with_reducible refine (holds_W (by first | exact HVa _ (by repeat (first | exact Below.refl _ _ | refine balloc ?_ _ | refine bdrew ?_ | refine bup ?_ (by assumption))) | exact HVb _ (by repeat (first | exact Below.refl _ _ | refine balloc ?_ _ | refine bdrew ?_ | refine bup ?_ (by assumption))) | assumption | exact VIn.up (by assumption) (by repeat (first | exact Below.refl _ _ | refine balloc ?_ _ | refine bdrew ?_ | refine bup ?_ (by assumption)))) x1 x2 x3).mono ?_)
  rintro e wh ⟨he, hbh⟩
  rw [E6] at he
  subst he
  refine hK.out _ _ (HX _ (by repeat (first | exact Below.refl _ _ | refine balloc ?_ _ | refine bdrew ?_ | refine bup ?_ (by assumption)))) (fun _ => ?_)
  try simp only [Act.put, List.setIfInBounds_toArray, List.set_cons_zero, List.set_cons_succ]
  clear hK K
  refine seq_run ho9_70 (by rfl) (fun K hK => ?_)
  go_simp
  go_at_call 28
  (with_reducible refine (not_V (by first | exact HVa _ (by repeat (first | exact Below.refl _ _ | refine balloc ?_ _ | refine bdrew ?_ | refine bup ?_ (by assumption))) | exact HVb _ (by repeat (first | exact Below.refl _ _ | refine balloc ?_ _ | refine bdrew ?_ | refine bup ?_ (by assumption))) | assumption | exact VIn.up (by assumption) (by repeat (first | exact Below.refl _ _ | refine balloc ?_ _ | refine bdrew ?_ | refine bup ?_ (by assumption))))).mono ?_)
  rintro e wn ⟨g, rfl, hvn, hbn⟩
  refine hK.out _ _ (HX _ (by repeat (first | exact Below.refl _ _ | refine balloc ?_ _ | refine bdrew ?_ | refine bup ?_ (by assumption)))) (fun _ => ?_)
  try simp only [Act.put, List.setIfInBounds_toArray, List.set_cons_zero, List.set_cons_succ]
  clear hK K
  refine seq_run ho9_72 (by rfl) (fun K hK => ?_)
  go_simp
  go_at_call 28
  (with_reducible refine (not_V (by first | exact HVa _ (by repeat (first | exact Below.refl _ _ | refine balloc ?_ _ | refine bdrew ?_ | refine bup ?_ (by assumption))) | exact HVb _ (by repeat (first | exact Below.refl _ _ | refine balloc ?_ _ | refine bdrew ?_ | refine bup ?_ (by assumption))) | assumption | exact VIn.up (by assumption) (by repeat (first | exact Below.refl _ _ | refine balloc ?_ _ | refine bdrew ?_ | refine bup ?_ (by assumption))))).mono ?_)
  rintro e wn ⟨g, rfl, hvn, hbn⟩
  refine hK.out _ _ (HX _ (by repeat (first | exact Below.refl _ _ | refine balloc ?_ _ | refine bdrew ?_ | refine bup ?_ (by assumption)))) (fun _ => ?_)
  try simp only [Act.put, List.setIfInBounds_toArray, List.set_cons_zero, List.set_cons_succ]
  clear hK K
  refine seq_run ho9_73 (by rfl) (fun K hK => ?_)
  go_simp
  refine hK.out _ _ (HX _ (by repeat (first | exact Below.refl _ _ | refine balloc ?_ _ | refine bdrew ?_ | refine bup ?_ (by assumption)))) (fun _ => ?_)
  try simp only [Act.put, List.setIfInBounds_toArray, List.set_cons_zero, List.set_cons_succ]
  clear hK K
  refine seq_run ho9_74 (by rfl) (fun K hK => ?_)
  go_simp
  go_at_call 29
  (with_reducible refine (joinK_any _ _ _ _ _).mono ?_)
  rintro e wj ⟨rfl, hbj⟩
  have hv3 := VIn.upd hbj (by first | exact Or.inl rfl | exact Or.inr rfl) (blk2 (k := 3) (VIn.up (by assumption) (by repeat (first | exact Below.refl _ _ | refine balloc ?_ _ | refine bdrew ?_ | refine bup ?_ (by assumption)))) (VIn.up (by assumption) (by repeat (first | exact Below.refl _ _ | refine balloc ?_ _ | refine bdrew ?_ | refine bup ?_ (by assumption)))))
  refine hK.out _ _ (HX _ (by repeat (first | exact Below.refl _ _ | refine balloc ?_ _ | refine bdrew ?_ | refine bup ?_ (by assumption)))) (fun _ => ?_)
  try simp only [Act.put, List.setIfInBounds_toArray, List.set_cons_zero, List.set_cons_succ]
  clear hK K
  refine seq_run ho9_76 (by rfl) (fun K hK => ?_)
  go_simp
  go_at_call 30
  (with_reducible refine (holds_W (by first | exact HVa _ (by repeat (first | exact Below.refl _ _ | refine balloc ?_ _ | refine bdrew ?_ | refine bup ?_ (by assumption))) | exact HVb _ (by repeat (first | exact Below.refl _ _ | refine balloc ?_ _ | refine bdrew ?_ | refine bup ?_ (by assumption))) | assumption | exact VIn.up (by assumption) (by repeat (first | exact Below.refl _ _ | refine balloc ?_ _ | refine bdrew ?_ | refine bup ?_ (by assumption)))) x1 x2 x3).mono ?_)
  rintro e wh ⟨he, hbh⟩
  rw [E7] at he
  subst he
  refine hK.out _ _ (HX _ (by repeat (first | exact Below.refl _ _ | refine balloc ?_ _ | refine bdrew ?_ | refine bup ?_ (by assumption)))) (fun _ => ?_)
  try simp only [Act.put, List.setIfInBounds_toArray, List.set_cons_zero, List.set_cons_succ]
  clear hK K
  refine seq_take (v := ?v77) ho9_77 (by rfl) ?hv77 ?rest77
  case hv77 => (intro w _; go_simp; try rfl)
  try simp only [Act.put, List.setIfInBounds_toArray, List.set_cons_zero, List.set_cons_succ]
  refine seq_take (v := ?v78) ho9_78 (by rfl) ?hv78 ?rest78
  case hv78 => (intro w _; go_simp; try rfl)
  try simp only [Act.put, List.setIfInBounds_toArray, List.set_cons_zero, List.set_cons_succ]
  refine seq_take (v := ?v79) ho9_79 (by rfl) ?hv79 ?rest79
  case hv79 => (intro w _; go_simp; try rfl)
  try simp only [Act.put, List.setIfInBounds_toArray, List.set_cons_zero, List.set_cons_succ]
  refine seq_take (v := ?v80) ho9_80 (by rfl) ?hv80 ?rest80
  case hv80 => (intro w hSw; obtain ⟨h0, h1, h2, h3, h4, h5, h6, h7, h8, h9, h10, -⟩ := hSw; go_simp; try rfl)
  try simp only [Act.put, List.setIfInBounds_toArray, List.set_cons_zero, List.set_cons_succ]
  refine seq_take (v := ?v83) ho9_83 (by rfl) ?hv83 ?rest83
  case hv83 => (intro w hSw; obtain ⟨h0, h1, h2, h3, h4, h5, h6, h7, h8, h9, h10, -⟩ := hSw; go_simp; try rfl)
  try simp only [Act.put, List.setIfInBounds_toArray, List.set_cons_zero, List.set_cons_succ]
  refine seq_take (v := ?v85) ho9_85 (by rfl) ?hv85 ?rest85
  case hv85 => (intro w _; go_simp; try rfl)
  try simp only [Act.put, List.setIfInBounds_toArray, List.set_cons_zero, List.set_cons_succ]
  refine seq_run ho9_81 (by rfl) (fun K hK => ?_)
  go_simp
  refine hK.out _ _ (HX _ (by repeat (first | exact Below.refl _ _ | refine balloc ?_ _ | refine bdrew ?_ | refine bup ?_ (by assumption)))) (fun _ => ?_)
  try simp only [Act.put, List.setIfInBounds_toArray, List.set_cons_zero, List.set_cons_succ]
  clear hK K
  refine seq_run ho9_82 (by rfl) (fun K hK => ?_)
  go_simp
  go_at_call 29
  (with_reducible refine (joinK_any _ _ _ _ _).mono ?_)
  rintro e wj ⟨rfl, hbj⟩
  have hv2 := VIn.upd hbj (by first | exact Or.inl rfl | exact Or.inr rfl) (blk1 (k := 2) (HVa _ (by repeat (first | exact Below.refl _ _ | refine balloc ?_ _ | refine bdrew ?_ | refine bup ?_ (by assumption)))))
  refine hK.out _ _ (HX _ (by repeat (first | exact Below.refl _ _ | refine balloc ?_ _ | refine bdrew ?_ | refine bup ?_ (by assumption)))) (fun _ => ?_)
  try simp only [Act.put, List.setIfInBounds_toArray, List.set_cons_zero, List.set_cons_succ]
  clear hK K
  refine seq_run ho9_84 (by rfl) (fun K hK => ?_)
  go_simp
  go_at_call 30
  (with_reducible refine (holds_W (by first | exact HVa _ (by repeat (first | exact Below.refl _ _ | refine balloc ?_ _ | refine bdrew ?_ | refine bup ?_ (by assumption))) | exact HVb _ (by repeat (first | exact Below.refl _ _ | refine balloc ?_ _ | refine bdrew ?_ | refine bup ?_ (by assumption))) | assumption | exact VIn.up (by assumption) (by repeat (first | exact Below.refl _ _ | refine balloc ?_ _ | refine bdrew ?_ | refine bup ?_ (by assumption)))) x1 x2 x3).mono ?_)
  rintro e wh ⟨he, hbh⟩
  rw [E8] at he
  subst he
  refine hK.out _ _ (HX _ (by repeat (first | exact Below.refl _ _ | refine balloc ?_ _ | refine bdrew ?_ | refine bup ?_ (by assumption)))) (fun _ => ?_)
  try simp only [Act.put, List.setIfInBounds_toArray, List.set_cons_zero, List.set_cons_succ]
  clear hK K
  refine seq_take (v := ?v86) ho9_86 (by rfl) ?hv86 ?rest86
  case hv86 => (intro w _; go_simp; try rfl)
  try simp only [Act.put, List.setIfInBounds_toArray, List.set_cons_zero, List.set_cons_succ]
  refine seq_take (v := ?v87) ho9_87 (by rfl) ?hv87 ?rest87
  case hv87 => (intro w _; go_simp; try rfl)
  try simp only [Act.put, List.setIfInBounds_toArray, List.set_cons_zero, List.set_cons_succ]
  refine seq_take (v := ?v88) ho9_88 (by rfl) ?hv88 ?rest88
  case hv88 => (intro w _; go_simp; try rfl)
  try simp only [Act.put, List.setIfInBounds_toArray, List.set_cons_zero, List.set_cons_succ]
  refine seq_end ?_
  exact hEnd _ _ _ _ _ _ _ _ _ _ _ _ _ _ _ _ _ _ _ _ _ _ _ _ _ _ _ _ _ _ _ _ _ _ _ _ _ _ _ _ _ _ _ _ _ _ _ _ _ _ _ _ _ _ _ _ _ _ _ _ _ _ _ _ _ _ _ _ _ _ _ _ _ _ _ _ _ _ _ _ _ _ _ _ _ _ _ _ _ (by repeat (first | exact Below.refl _ _ | refine balloc ?_ _ | refine bdrew ?_ | refine bup ?_ (by assumption)))
set_option maxHeartbeats 40000000 in
set_option maxRecDepth 100000 in
theorem log9fq (V : World) (ba bb be : Nat) (a b : Cd) (pa pb : Option Addr) (ca cb : Nat) (x1 x2 x3 : Int) (q : Bool) (HX : ∀ w', Below V.heap.size V w' → w'.cell? ⟨ba, 0, none⟩ = some (.int .i64 a.k) ∧ w'.cell? ⟨ba, 1, none⟩ = some (.int .i64 a.v) ∧ w'.cell? ⟨ba, 2, none⟩ = some (.int .i64 a.n) ∧ w'.cell? ⟨ba, 3, none⟩ = some (.slice pa a.ps.length ca) ∧ w'.cell? ⟨bb, 0, none⟩ = some (.int .i64 b.k) ∧ w'.cell? ⟨bb, 1, none⟩ = some (.int .i64 b.v) ∧ w'.cell? ⟨bb, 2, none⟩ = some (.int .i64 b.n) ∧ w'.cell? ⟨bb, 3, none⟩ = some (.slice pb b.ps.length cb) ∧ w'.cell? ⟨be, 0, none⟩ = some (.int .i64 x1) ∧ w'.cell? ⟨be, 1, none⟩ = some (.int .i64 x2) ∧ w'.cell? ⟨be, 2, none⟩ = some (.int .i64 x3) ∧ Hid (Below V.heap.size V w'))
    (HVa : ∀ W, Below V.heap.size V W → VIn W (.agg #[.int .i64 a.k, .int .i64 a.v, .int .i64 a.n, .slice pa a.ps.length ca]) a) (HVb : ∀ W, Below V.heap.size V W → VIn W (.agg #[.int .i64 b.k, .int .i64 b.v, .int .i64 b.n, .slice pb b.ps.length cb]) b) (E1 : holdB (notC a) ⟨x1, x2, x3⟩ = true) (E2 : holdB (joinC 2 [a, b]) ⟨x1, x2, x3⟩ = false) (E3 : holdB (joinC 3 [a, b]) ⟨x1, x2, x3⟩ = q) (E4 : holdB (joinC 2 [b, a, b]) ⟨x1, x2, x3⟩ = false) (E5 : holdB (joinC 3 [b, a, b]) ⟨x1, x2, x3⟩ = q) (E6 : holdB (notC (joinC 2 [a, b])) ⟨x1, x2, x3⟩ = true) (E7 : holdB (joinC 3 [notC a, notC b]) ⟨x1, x2, x3⟩ = true) (E8 : holdB (joinC 2 [a]) ⟨x1, x2, x3⟩ = false)
    {Q : Exit → Act → World → Prop} (hQ0 : ∀ c a d v w, Q (.panic c) (Act.put a d v) w → Q (.panic c) a w) (w : World) (hbw : Below V.heap.size V w) (u0 u1 u2 u5 u6 u10 u11 u12 u13 u14 u15 u16 u17 u18 u19 u20 u21 u22 u23 u24 u25 u26 u27 u28 u29 u30 u31 u32 u33 u34 u35 u36 u37 u38 u39 u40 u41 u42 u43 u44 u45 u46 u47 u48 u49 u50 u51 u52 u53 u54 u55 u56 u57 u58 u59 u60 u61 u62 u63 u64 u65 u66 u67 u68 u69 u70 u71 u72 u73 u74 u75 u76 u77 u78 u79 u80 u81 u82 u83 u84 u85 u86 u87 u88 u89 u90 u91 u92 u93 u94 u95 u96 u97 u98 u99 u100 u101 u102 u103 u104 u105 u106 u107 u108 u109 u110 u111 u112 u113 u114 u115 u116 u117 u118 u119 u120 u121 u122 u123 u124 u125 u126 u127 u128 u129 u130 u131 u132 u133 u134 u135 u136 u137 u138 u139 u140 u141 u142 u143 u144 u145 u146 u147 u148 u149 u150 u151 u152 : Value)
    (hEnd : ∀ (z65 z66 z67 z68 z69 z70 z71 z72 z73 z74 z75 z76 z77 z78 z79 z80 z81 z82 z83 z84 z85 z86 z87 z88 z89 z90 z91 z92 z93 z94 z95 z96 z97 z98 z99 z100 z101 z102 z103 z104 z105 z106 z107 z108 z109 z110 z111 z112 z113 z114 z115 z116 z117 z118 z119 z120 z121 z122 z123 z124 z125 z126 z127 z128 z129 z130 z131 z132 z133 z134 z135 z136 z137 z138 z139 z140 z141 z142 z143 z144 z145 z146 z147 z148 z149 z150 z151 z152 : Value) (w' : World), Below V.heap.size V w' → Q .normal ⟨#[u0, u1, u2, .pointer (some ⟨ba, 0, none⟩), .pointer (some ⟨bb, 0, none⟩), u5, .bool true, .pointer (some ⟨be, 0, none⟩), .bool false, .bool q, u10, u11, u12, u13, u14, u15, u16, u17, u18, u19, u20, u21, u22, u23, u24, u25, u26, u27, u28, u29, u30, u31, u32, u33, u34, u35, u36, u37, u38, u39, u40, u41, u42, u43, u44, u45, u46, u47, u48, u49, u50, u51, u52, u53, u54, u55, u56, u57, u58, u59, u60, u61, u62, u63, u64, z65, z66, z67, z68, z69, z70, z71, z72, z73, z74, z75, z76, z77, z78, z79, z80, z81, z82, z83, z84, z85, z86, z87, z88, z89, z90, z91, z92, z93, z94, z95, z96, z97, z98, z99, z100, z101, z102, z103, z104, z105, z106, z107, z108, z109, z110, z111, z112, z113, z114, z115, z116, z117, z118, z119, z120, z121, z122, z123, z124, z125, z126, z127, z128, z129, z130, z131, z132, z133, z134, z135, z136, z137, z138, z139, z140, z141, z142, z143, z144, z145, z146, z147, z148, z149, z150, z151, z152], []⟩ w') :
    (Code.region 9 ops9 true).wp Tryz.prog Q ⟨#[u0, u1, u2, .pointer (some ⟨ba, 0, none⟩), .pointer (some ⟨bb, 0, none⟩), u5, u6, .pointer (some ⟨be, 0, none⟩), .bool false, .bool q, u10, u11, u12, u13, u14, u15, u16, u17, u18, u19, u20, u21, u22, u23, u24, u25, u26, u27, u28, u29, u30, u31, u32, u33, u34, u35, u36, u37, u38, u39, u40, u41, u42, u43, u44, u45, u46, u47, u48, u49, u50, u51, u52, u53, u54, u55, u56, u57, u58, u59, u60, u61, u62, u63, u64, u65, u66, u67, u68, u69, u70, u71, u72, u73, u74, u75, u76, u77, u78, u79, u80, u81, u82, u83, u84, u85, u86, u87, u88, u89, u90, u91, u92, u93, u94, u95, u96, u97, u98, u99, u100, u101, u102, u103, u104, u105, u106, u107, u108, u109, u110, u111, u112, u113, u114, u115, u116, u117, u118, u119, u120, u121, u122, u123, u124, u125, u126, u127, u128, u129, u130, u131, u132, u133, u134, u135, u136, u137, u138, u139, u140, u141, u142, u143, u144, u145, u146, u147, u148, u149, u150, u151, u152], []⟩ w := by
  refine region_plan (S := fun w' => w'.cell? ⟨ba, 0, none⟩ = some (.int .i64 a.k) ∧ w'.cell? ⟨ba, 1, none⟩ = some (.int .i64 a.v) ∧ w'.cell? ⟨ba, 2, none⟩ = some (.int .i64 a.n) ∧ w'.cell? ⟨ba, 3, none⟩ = some (.slice pa a.ps.length ca) ∧ w'.cell? ⟨bb, 0, none⟩ = some (.int .i64 b.k) ∧ w'.cell? ⟨bb, 1, none⟩ = some (.int .i64 b.v) ∧ w'.cell? ⟨bb, 2, none⟩ = some (.int .i64 b.n) ∧ w'.cell? ⟨bb, 3, none⟩ = some (.slice pb b.ps.length cb) ∧ w'.cell? ⟨be, 0, none⟩ = some (.int .i64 x1) ∧ w'.cell? ⟨be, 1, none⟩ = some (.int .i64 x2) ∧ w'.cell? ⟨be, 2, none⟩ = some (.int .i64 x3) ∧ Hid (Below V.heap.size V w')) (by kernel_rfl) sel9 hQ0 plan9 len9 ok9 (HX _ (by repeat (first | exact Below.refl _ _ | refine balloc ?_ _ | refine bdrew ?_ | refine bup ?_ (by assumption)))) ?_
  unfold plan9
  refine seq_take (v := ?v0) ho9_0 (by rfl) ?hv0 ?rest0
  case hv0 => (intro w hSw; obtain ⟨h0, h1, h2, h3, h4, h5, h6, h7, h8, h9, h10, -⟩ := hSw; go_simp; try rfl)
  try simp only [Act.put, List.setIfInBounds_toArray, List.set_cons_zero, List.set_cons_succ]
  refine seq_take (v := ?v2) ho9_2 (by rfl) ?hv2 ?rest2
  case hv2 => (intro w hSw; obtain ⟨h0, h1, h2, h3, h4, h5, h6, h7, h8, h9, h10, -⟩ := hSw; go_simp; try rfl)
  try simp only [Act.put, List.setIfInBounds_toArray, List.set_cons_zero, List.set_cons_succ]
  refine seq_take (v := ?v4) ho9_4 (by rfl) ?hv4 ?rest4
  case hv4 => (intro w _; go_simp; try rfl)
  try simp only [Act.put, List.setIfInBounds_toArray, List.set_cons_zero, List.set_cons_succ]
  refine seq_take (v := ?v5) ho9_5 (by rfl) ?hv5 ?rest5
  case hv5 => (intro w _; go_simp; try rfl)
  try simp only [Act.put, List.setIfInBounds_toArray, List.set_cons_zero, List.set_cons_succ]
  refine seq_run ho9_1 (by rfl) (fun K hK => ?_)
  go_simp
  go_at_call 28
  (with_reducible refine (not_V (by first | exact HVa _ (by repeat (first | exact Below.refl _ _ | refine balloc ?_ _ | refine bdrew ?_ | refine bup ?_ (by assumption))) | exact HVb _ (by repeat (first | exact Below.refl _ _ | refine balloc ?_ _ | refine bdrew ?_ | refine bup ?_ (by assumption))) | assumption | exact VIn.up (by assumption) (by repeat (first | exact Below.refl _ _ | refine balloc ?_ _ | refine bdrew ?_ | refine bup ?_ (by assumption))))).mono ?_)
  rintro e wn ⟨g, rfl, hvn, hbn⟩
  refine hK.out _ _ (HX _ (by repeat (first | exact Below.refl _ _ | refine balloc ?_ _ | refine bdrew ?_ | refine bup ?_ (by assumption)))) (fun _ => ?_)
  try simp only [Act.put, List.setIfInBounds_toArray, List.set_cons_zero, List.set_cons_succ]
  clear hK K
  refine seq_run ho9_3 (by rfl) (fun K hK => ?_)
  go_simp
  go_at_call 30
  (with_reducible refine (holds_W (by first | exact HVa _ (by repeat (first | exact Below.refl _ _ | refine balloc ?_ _ | refine bdrew ?_ | refine bup ?_ (by assumption))) | exact HVb _ (by repeat (first | exact Below.refl _ _ | refine balloc ?_ _ | refine bdrew ?_ | refine bup ?_ (by assumption))) | assumption | exact VIn.up (by assumption) (by repeat (first | exact Below.refl _ _ | refine balloc ?_ _ | refine bdrew ?_ | refine bup ?_ (by assumption)))) x1 x2 x3).mono ?_)
  rintro e wh ⟨he, hbh⟩
  rw [E1] at he
  subst he
  refine hK.out _ _ (HX _ (by repeat (first | exact Below.refl _ _ | refine balloc ?_ _ | refine bdrew ?_ | refine bup ?_ (by assumption)))) (fun _ => ?_)
  try simp only [Act.put, List.setIfInBounds_toArray, List.set_cons_zero, List.set_cons_succ]
  clear hK K
  refine seq_take (v := ?v6) ho9_6 (by rfl) ?hv6 ?rest6
  case hv6 => (intro w _; go_simp; try rfl)
  try simp only [Act.put, List.setIfInBounds_toArray, List.set_cons_zero, List.set_cons_succ]
  refine seq_take (v := ?v7) ho9_7 (by rfl) ?hv7 ?rest7
  case hv7 => (intro w _; go_simp; try rfl)
  try simp only [Act.put, List.setIfInBounds_toArray, List.set_cons_zero, List.set_cons_succ]
  refine seq_take (v := ?v8) ho9_8 (by rfl) ?hv8 ?rest8
  case hv8 => (intro w hSw; obtain ⟨h0, h1, h2, h3, h4, h5, h6, h7, h8, h9, h10, -⟩ := hSw; go_simp; try rfl)
  try simp only [Act.put, List.setIfInBounds_toArray, List.set_cons_zero, List.set_cons_succ]
  refine seq_take (v := ?v9) ho9_9 (by rfl) ?hv9 ?rest9
  case hv9 => (intro w hSw; obtain ⟨h0, h1, h2, h3, h4, h5, h6, h7, h8, h9, h10, -⟩ := hSw; go_simp; try rfl)
  try simp only [Act.put, List.setIfInBounds_toArray, List.set_cons_zero, List.set_cons_succ]
  refine seq_take (v := ?v12) ho9_12 (by rfl) ?hv12 ?rest12
  case hv12 => (intro w hSw; obtain ⟨h0, h1, h2, h3, h4, h5, h6, h7, h8, h9, h10, -⟩ := hSw; go_simp; try rfl)
  try simp only [Act.put, List.setIfInBounds_toArray, List.set_cons_zero, List.set_cons_succ]
  refine seq_take (v := ?v14) ho9_14 (by rfl) ?hv14 ?rest14
  case hv14 => (intro w _; go_simp; try rfl)
  try simp only [Act.put, List.setIfInBounds_toArray, List.set_cons_zero, List.set_cons_succ]
  refine seq_run ho9_10 (by rfl) (fun K hK => ?_)
  go_simp
  refine hK.out _ _ (HX _ (by repeat (first | exact Below.refl _ _ | refine balloc ?_ _ | refine bdrew ?_ | refine bup ?_ (by assumption)))) (fun _ => ?_)
  try simp only [Act.put, List.setIfInBounds_toArray, List.set_cons_zero, List.set_cons_succ]
  clear hK K
  refine seq_run ho9_11 (by rfl) (fun K hK => ?_)
  go_simp
  go_at_call 29
  (with_reducible refine (joinK_any _ _ _ _ _).mono ?_)
  rintro e wj ⟨rfl, hbj⟩
  have hv2 := VIn.upd hbj (by first | exact Or.inl rfl | exact Or.inr rfl) (blk2 (k := 2) (HVa _ (by repeat (first | exact Below.refl _ _ | refine balloc ?_ _ | refine bdrew ?_ | refine bup ?_ (by assumption)))) (HVb _ (by repeat (first | exact Below.refl _ _ | refine balloc ?_ _ | refine bdrew ?_ | refine bup ?_ (by assumption)))))
  refine hK.out _ _ (HX _ (by repeat (first | exact Below.refl _ _ | refine balloc ?_ _ | refine bdrew ?_ | refine bup ?_ (by assumption)))) (fun _ => ?_)
  try simp only [Act.put, List.setIfInBounds_toArray, List.set_cons_zero, List.set_cons_succ]
  clear hK K
  refine seq_run ho9_13 (by rfl) (fun K hK => ?_)
  go_simp
  go_at_call 30
  (with_reducible refine (holds_W (by first | exact HVa _ (by repeat (first | exact Below.refl _ _ | refine balloc ?_ _ | refine bdrew ?_ | refine bup ?_ (by assumption))) | exact HVb _ (by repeat (first | exact Below.refl _ _ | refine balloc ?_ _ | refine bdrew ?_ | refine bup ?_ (by assumption))) | assumption | exact VIn.up (by assumption) (by repeat (first | exact Below.refl _ _ | refine balloc ?_ _ | refine bdrew ?_ | refine bup ?_ (by assumption)))) x1 x2 x3).mono ?_)
  rintro e wh ⟨he, hbh⟩
  rw [E2] at he
  subst he
  refine hK.out _ _ (HX _ (by repeat (first | exact Below.refl _ _ | refine balloc ?_ _ | refine bdrew ?_ | refine bup ?_ (by assumption)))) (fun _ => ?_)
  try simp only [Act.put, List.setIfInBounds_toArray, List.set_cons_zero, List.set_cons_succ]
  clear hK K
  refine seq_take (v := ?v15) ho9_15 (by rfl) ?hv15 ?rest15
  case hv15 => (intro w _; go_simp; try rfl)
  try simp only [Act.put, List.setIfInBounds_toArray, List.set_cons_zero, List.set_cons_succ]
  refine seq_skip ho9_16 (by rfl) ?_
  try simp only [Act.put, List.setIfInBounds_toArray, List.set_cons_zero, List.set_cons_succ]
  refine seq_take (v := ?v17) ho9_17 (by rfl) ?hv17 ?rest17
  case hv17 => (intro w _; go_simp; try rfl)
  try simp only [Act.put, List.setIfInBounds_toArray, List.set_cons_zero, List.set_cons_succ]
  refine seq_take (v := ?v18) ho9_18 (by rfl) ?hv18 ?rest18
  case hv18 => (intro w _; go_simp; try rfl)
  try simp only [Act.put, List.setIfInBounds_toArray, List.set_cons_zero, List.set_cons_succ]
  refine seq_take (v := ?v19) ho9_19 (by rfl) ?hv19 ?rest19
  case hv19 => (intro w _; go_simp; try rfl)
  try simp only [Act.put, List.setIfInBounds_toArray, List.set_cons_zero, List.set_cons_succ]
  refine seq_take (v := ?v20) ho9_20 (by rfl) ?hv20 ?rest20
  case hv20 => (intro w _; go_simp; try rfl)
  try simp only [Act.put, List.setIfInBounds_toArray, List.set_cons_zero, List.set_cons_succ]
  refine seq_take (v := ?v21) ho9_21 (by rfl) ?hv21 ?rest21
  case hv21 => (intro w hSw; obtain ⟨h0, h1, h2, h3, h4, h5, h6, h7, h8, h9, h10, -⟩ := hSw; go_simp; try rfl)
  try simp only [Act.put, List.setIfInBounds_toArray, List.set_cons_zero, List.set_cons_succ]
  refine seq_take (v := ?v22) ho9_22 (by rfl) ?hv22 ?rest22
  case hv22 => (intro w hSw; obtain ⟨h0, h1, h2, h3, h4, h5, h6, h7, h8, h9, h10, -⟩ := hSw; go_simp; try rfl)
  try simp only [Act.put, List.setIfInBounds_toArray, List.set_cons_zero, List.set_cons_succ]
  refine seq_take (v := ?v25) ho9_25 (by rfl) ?hv25 ?rest25
  case hv25 => (intro w hSw; obtain ⟨h0, h1, h2, h3, h4, h5, h6, h7, h8, h9, h10, -⟩ := hSw; go_simp; try rfl)
  try simp only [Act.put, List.setIfInBounds_toArray, List.set_cons_zero, List.set_cons_succ]
  refine seq_take (v := ?v27) ho9_27 (by rfl) ?hv27 ?rest27
  case hv27 => (intro w _; go_simp; try rfl)
  try simp only [Act.put, List.setIfInBounds_toArray, List.set_cons_zero, List.set_cons_succ]
  refine seq_run ho9_23 (by rfl) (fun K hK => ?_)
  go_simp
  refine hK.out _ _ (HX _ (by repeat (first | exact Below.refl _ _ | refine balloc ?_ _ | refine bdrew ?_ | refine bup ?_ (by assumption)))) (fun _ => ?_)
  try simp only [Act.put, List.setIfInBounds_toArray, List.set_cons_zero, List.set_cons_succ]
  clear hK K
  refine seq_run ho9_24 (by rfl) (fun K hK => ?_)
  go_simp
  go_at_call 29
  (with_reducible refine (joinK_any _ _ _ _ _).mono ?_)
  rintro e wj ⟨rfl, hbj⟩
  have hv3 := VIn.upd hbj (by first | exact Or.inl rfl | exact Or.inr rfl) (blk2 (k := 3) (HVa _ (by repeat (first | exact Below.refl _ _ | refine balloc ?_ _ | refine bdrew ?_ | refine bup ?_ (by assumption)))) (HVb _ (by repeat (first | exact Below.refl _ _ | refine balloc ?_ _ | refine bdrew ?_ | refine bup ?_ (by assumption)))))
  refine hK.out _ _ (HX _ (by repeat (first | exact Below.refl _ _ | refine balloc ?_ _ | refine bdrew ?_ | refine bup ?_ (by assumption)))) (fun _ => ?_)
  try simp only [Act.put, List.setIfInBounds_toArray, List.set_cons_zero, List.set_cons_succ]
  clear hK K
  refine seq_run ho9_26 (by rfl) (fun K hK => ?_)
  go_simp
  go_at_call 30
  (with_reducible refine (holds_W (by first | exact HVa _ (by repeat (first | exact Below.refl _ _ | refine balloc ?_ _ | refine bdrew ?_ | refine bup ?_ (by assumption))) | exact HVb _ (by repeat (first | exact Below.refl _ _ | refine balloc ?_ _ | refine bdrew ?_ | refine bup ?_ (by assumption))) | assumption | exact VIn.up (by assumption) (by repeat (first | exact Below.refl _ _ | refine balloc ?_ _ | refine bdrew ?_ | refine bup ?_ (by assumption)))) x1 x2 x3).mono ?_)
  rintro e wh ⟨he, hbh⟩
  rw [E3] at he
  subst he
  refine hK.out _ _ (HX _ (by repeat (first | exact Below.refl _ _ | refine balloc ?_ _ | refine bdrew ?_ | refine bup ?_ (by assumption)))) (fun _ => ?_)
  try simp only [Act.put, List.setIfInBounds_toArray, List.set_cons_zero, List.set_cons_succ]
  clear hK K
  refine seq_take (v := ?v28) ho9_28 (by rfl) ?hv28 ?rest28
  case hv28 => (intro w _; go_simp; try rfl)
  try simp only [Act.put, List.setIfInBounds_toArray, List.set_cons_zero, List.set_cons_succ]
  refine seq_take (v := ?v29) ho9_29 (by rfl) ?hv29 ?rest29
  case hv29 => (intro w _; go_simp; try rfl)
  try simp only [Act.put, List.setIfInBounds_toArray, List.set_cons_zero, List.set_cons_succ]
  refine seq_take (v := ?v30) ho9_30 (by rfl) ?hv30 ?rest30
  case hv30 => (intro w _; go_simp; try rfl)
  try simp only [Act.put, List.setIfInBounds_toArray, List.set_cons_zero, List.set_cons_succ]
  refine seq_take (v := ?v31) ho9_31 (by rfl) ?hv31 ?rest31
  case hv31 => (intro w _; go_simp; try rfl)
  try simp only [Act.put, List.setIfInBounds_toArray, List.set_cons_zero, List.set_cons_succ]
  refine seq_take (v := ?v32) ho9_32 (by rfl) ?hv32 ?rest32
  case hv32 => (intro w _; go_simp; try rfl)
  try simp only [Act.put, List.setIfInBounds_toArray, List.set_cons_zero, List.set_cons_succ]
  refine seq_take (v := ?v33) ho9_33 (by rfl) ?hv33 ?rest33
  case hv33 => (intro w _; go_simp; try rfl)
  try simp only [Act.put, List.setIfInBounds_toArray, List.set_cons_zero, List.set_cons_succ]
  refine seq_take (v := ?v34) ho9_34 (by rfl) ?hv34 ?rest34
  case hv34 => (intro w hSw; obtain ⟨h0, h1, h2, h3, h4, h5, h6, h7, h8, h9, h10, -⟩ := hSw; go_simp; try rfl)
  try simp only [Act.put, List.setIfInBounds_toArray, List.set_cons_zero, List.set_cons_succ]
  refine seq_take (v := ?v35) ho9_35 (by rfl) ?hv35 ?rest35
  case hv35 => (intro w hSw; obtain ⟨h0, h1, h2, h3, h4, h5, h6, h7, h8, h9, h10, -⟩ := hSw; go_simp; try rfl)
  try simp only [Act.put, List.setIfInBounds_toArray, List.set_cons_zero, List.set_cons_succ]
  refine seq_take (v := ?v36) ho9_36 (by rfl) ?hv36 ?rest36
  case hv36 => (intro w hSw; obtain ⟨h0, h1, h2, h3, h4, h5, h6, h7, h8, h9, h10, -⟩ := hSw; go_simp; try rfl)
  try simp only [Act.put, List.setIfInBounds_toArray, List.set_cons_zero, List.set_cons_succ]
  refine seq_take (v := ?v39) ho9_39 (by rfl) ?hv39 ?rest39
  case hv39 => (intro w hSw; obtain ⟨h0, h1, h2, h3, h4, h5, h6, h7, h8, h9, h10, -⟩ := hSw; go_simp; try rfl)
  try simp only [Act.put, List.setIfInBounds_toArray, List.set_cons_zero, List.set_cons_succ]
  refine seq_take (v := ?v41) ho9_41 (by rfl) ?hv41 ?rest41
  case hv41 => (intro w _; go_simp; try rfl)
  try simp only [Act.put, List.setIfInBounds_toArray, List.set_cons_zero, List.set_cons_succ]
  refine seq_run ho9_37 (by rfl) (fun K hK => ?_)
  go_simp
  refine hK.out _ _ (HX _ (by repeat (first | exact Below.refl _ _ | refine balloc ?_ _ | refine bdrew ?_ | refine bup ?_ (by assumption)))) (fun _ => ?_)
  try simp only [Act.put, List.setIfInBounds_toArray, List.set_cons_zero, List.set_cons_succ]
  clear hK K
  refine seq_run ho9_38 (by rfl) (fun K hK => ?_)
  go_simp
  go_at_call 29
  (with_reducible refine (joinK_any _ _ _ _ _).mono ?_)
  rintro e wj ⟨rfl, hbj⟩
  have hv2 := VIn.upd hbj (by first | exact Or.inl rfl | exact Or.inr rfl) (blk3 (k := 2) (HVb _ (by repeat (first | exact Below.refl _ _ | refine balloc ?_ _ | refine bdrew ?_ | refine bup ?_ (by assumption)))) (HVa _ (by repeat (first | exact Below.refl _ _ | refine balloc ?_ _ | refine bdrew ?_ | refine bup ?_ (by assumption)))) (HVb _ (by repeat (first | exact Below.refl _ _ | refine balloc ?_ _ | refine bdrew ?_ | refine bup ?_ (by assumption)))))
  refine hK.out _ _ (HX _ (by repeat (first | exact Below.refl _ _ | refine balloc ?_ _ | refine bdrew ?_ | refine bup ?_ (by assumption)))) (fun _ => ?_)
  try simp only [Act.put, List.setIfInBounds_toArray, List.set_cons_zero, List.set_cons_succ]
  clear hK K
  refine seq_run ho9_40 (by rfl) (fun K hK => ?_)
  go_simp
  go_at_call 30
  (with_reducible refine (holds_W (by first | exact HVa _ (by repeat (first | exact Below.refl _ _ | refine balloc ?_ _ | refine bdrew ?_ | refine bup ?_ (by assumption))) | exact HVb _ (by repeat (first | exact Below.refl _ _ | refine balloc ?_ _ | refine bdrew ?_ | refine bup ?_ (by assumption))) | assumption | exact VIn.up (by assumption) (by repeat (first | exact Below.refl _ _ | refine balloc ?_ _ | refine bdrew ?_ | refine bup ?_ (by assumption)))) x1 x2 x3).mono ?_)
  rintro e wh ⟨he, hbh⟩
  rw [E4] at he
  subst he
  refine hK.out _ _ (HX _ (by repeat (first | exact Below.refl _ _ | refine balloc ?_ _ | refine bdrew ?_ | refine bup ?_ (by assumption)))) (fun _ => ?_)
  try simp only [Act.put, List.setIfInBounds_toArray, List.set_cons_zero, List.set_cons_succ]
  clear hK K
  refine seq_take (v := ?v42) ho9_42 (by rfl) ?hv42 ?rest42
  case hv42 => (intro w _; go_simp; try rfl)
  try simp only [Act.put, List.setIfInBounds_toArray, List.set_cons_zero, List.set_cons_succ]
  refine seq_skip ho9_43 (by rfl) ?_
  try simp only [Act.put, List.setIfInBounds_toArray, List.set_cons_zero, List.set_cons_succ]
  refine seq_take (v := ?v44) ho9_44 (by rfl) ?hv44 ?rest44
  case hv44 => (intro w _; go_simp; try rfl)
  try simp only [Act.put, List.setIfInBounds_toArray, List.set_cons_zero, List.set_cons_succ]
  refine seq_take (v := ?v45) ho9_45 (by rfl) ?hv45 ?rest45
  case hv45 => (intro w _; go_simp; try rfl)
  try simp only [Act.put, List.setIfInBounds_toArray, List.set_cons_zero, List.set_cons_succ]
  refine seq_take (v := ?v46) ho9_46 (by rfl) ?hv46 ?rest46
  case hv46 => (intro w _; go_simp; try rfl)
  try simp only [Act.put, List.setIfInBounds_toArray, List.set_cons_zero, List.set_cons_succ]
  refine seq_take (v := ?v47) ho9_47 (by rfl) ?hv47 ?rest47
  case hv47 => (intro w _; go_simp; try rfl)
  try simp only [Act.put, List.setIfInBounds_toArray, List.set_cons_zero, List.set_cons_succ]
  refine seq_take (v := ?v48) ho9_48 (by rfl) ?hv48 ?rest48
  case hv48 => (intro w hSw; obtain ⟨h0, h1, h2, h3, h4, h5, h6, h7, h8, h9, h10, -⟩ := hSw; go_simp; try rfl)
  try simp only [Act.put, List.setIfInBounds_toArray, List.set_cons_zero, List.set_cons_succ]
  refine seq_take (v := ?v49) ho9_49 (by rfl) ?hv49 ?rest49
  case hv49 => (intro w hSw; obtain ⟨h0, h1, h2, h3, h4, h5, h6, h7, h8, h9, h10, -⟩ := hSw; go_simp; try rfl)
  try simp only [Act.put, List.setIfInBounds_toArray, List.set_cons_zero, List.set_cons_succ]
  refine seq_take (v := ?v50) ho9_50 (by rfl) ?hv50 ?rest50
  case hv50 => (intro w hSw; obtain ⟨h0, h1, h2, h3, h4, h5, h6, h7, h8, h9, h10, -⟩ := hSw; go_simp; try rfl)
  try simp only [Act.put, List.setIfInBounds_toArray, List.set_cons_zero, List.set_cons_succ]
  refine seq_take (v := ?v53) ho9_53 (by rfl) ?hv53 ?rest53
  case hv53 => (intro w hSw; obtain ⟨h0, h1, h2, h3, h4, h5, h6, h7, h8, h9, h10, -⟩ := hSw; go_simp; try rfl)
  try simp only [Act.put, List.setIfInBounds_toArray, List.set_cons_zero, List.set_cons_succ]
  refine seq_take (v := ?v55) ho9_55 (by rfl) ?hv55 ?rest55
  case hv55 => (intro w _; go_simp; try rfl)
  try simp only [Act.put, List.setIfInBounds_toArray, List.set_cons_zero, List.set_cons_succ]
  refine seq_run ho9_51 (by rfl) (fun K hK => ?_)
  go_simp
  refine hK.out _ _ (HX _ (by repeat (first | exact Below.refl _ _ | refine balloc ?_ _ | refine bdrew ?_ | refine bup ?_ (by assumption)))) (fun _ => ?_)
  try simp only [Act.put, List.setIfInBounds_toArray, List.set_cons_zero, List.set_cons_succ]
  clear hK K
  refine seq_run ho9_52 (by rfl) (fun K hK => ?_)
  go_simp
  go_at_call 29
  (with_reducible refine (joinK_any _ _ _ _ _).mono ?_)
  rintro e wj ⟨rfl, hbj⟩
  have hv3 := VIn.upd hbj (by first | exact Or.inl rfl | exact Or.inr rfl) (blk3 (k := 3) (HVb _ (by repeat (first | exact Below.refl _ _ | refine balloc ?_ _ | refine bdrew ?_ | refine bup ?_ (by assumption)))) (HVa _ (by repeat (first | exact Below.refl _ _ | refine balloc ?_ _ | refine bdrew ?_ | refine bup ?_ (by assumption)))) (HVb _ (by repeat (first | exact Below.refl _ _ | refine balloc ?_ _ | refine bdrew ?_ | refine bup ?_ (by assumption)))))
  refine hK.out _ _ (HX _ (by repeat (first | exact Below.refl _ _ | refine balloc ?_ _ | refine bdrew ?_ | refine bup ?_ (by assumption)))) (fun _ => ?_)
  try simp only [Act.put, List.setIfInBounds_toArray, List.set_cons_zero, List.set_cons_succ]
  clear hK K
  refine seq_run ho9_54 (by rfl) (fun K hK => ?_)
  go_simp
  go_at_call 30
  (with_reducible refine (holds_W (by first | exact HVa _ (by repeat (first | exact Below.refl _ _ | refine balloc ?_ _ | refine bdrew ?_ | refine bup ?_ (by assumption))) | exact HVb _ (by repeat (first | exact Below.refl _ _ | refine balloc ?_ _ | refine bdrew ?_ | refine bup ?_ (by assumption))) | assumption | exact VIn.up (by assumption) (by repeat (first | exact Below.refl _ _ | refine balloc ?_ _ | refine bdrew ?_ | refine bup ?_ (by assumption)))) x1 x2 x3).mono ?_)
  rintro e wh ⟨he, hbh⟩
  rw [E5] at he
  subst he
  refine hK.out _ _ (HX _ (by repeat (first | exact Below.refl _ _ | refine balloc ?_ _ | refine bdrew ?_ | refine bup ?_ (by assumption)))) (fun _ => ?_)
  try simp only [Act.put, List.setIfInBounds_toArray, List.set_cons_zero, List.set_cons_succ]
  clear hK K
  refine seq_take (v := ?v56) ho9_56 (by rfl) ?hv56 ?rest56
  case hv56 => (intro w _; go_simp; try rfl)
  try simp only [Act.put, List.setIfInBounds_toArray, List.set_cons_zero, List.set_cons_succ]
  refine seq_take (v := ?v57) ho9_57 (by rfl) ?hv57 ?rest57
  case hv57 => (intro w _; go_simp; try rfl)
  try simp only [Act.put, List.setIfInBounds_toArray, List.set_cons_zero, List.set_cons_succ]
  refine seq_take (v := ?v58) ho9_58 (by rfl) ?hv58 ?rest58
  case hv58 => (intro w _; go_simp; try rfl)
  try simp only [Act.put, List.setIfInBounds_toArray, List.set_cons_zero, List.set_cons_succ]
  refine seq_take (v := ?v59) ho9_59 (by rfl) ?hv59 ?rest59
  case hv59 => (intro w _; go_simp; try rfl)
  try simp only [Act.put, List.setIfInBounds_toArray, List.set_cons_zero, List.set_cons_succ]
  refine seq_take (v := ?v60) ho9_60 (by rfl) ?hv60 ?rest60
  case hv60 => (intro w _; go_simp; try rfl)
  try simp only [Act.put, List.setIfInBounds_toArray, List.set_cons_zero, List.set_cons_succ]
  refine seq_take (v := ?v61) ho9_61 (by rfl) ?hv61 ?rest61
  case hv61 => (intro w _; go_simp; try rfl)
  try simp only [Act.put, List.setIfInBounds_toArray, List.set_cons_zero, List.set_cons_succ]
  refine seq_take (v := ?v62) ho9_62 (by rfl) ?hv62 ?rest62
  case hv62 => (intro w hSw; obtain ⟨h0, h1, h2, h3, h4, h5, h6, h7, h8, h9, h10, -⟩ := hSw; go_simp; try rfl)
  try simp only [Act.put, List.setIfInBounds_toArray, List.set_cons_zero, List.set_cons_succ]
  refine seq_take (v := ?v63) ho9_63 (by rfl) ?hv63 ?rest63
  case hv63 => (intro w hSw; obtain ⟨h0, h1, h2, h3, h4, h5, h6, h7, h8, h9, h10, -⟩ := hSw; go_simp; try rfl)
  try simp only [Act.put, List.setIfInBounds_toArray, List.set_cons_zero, List.set_cons_succ]
  refine seq_take (v := ?v67) ho9_67 (by rfl) ?hv67 ?rest67
  case hv67 => (intro w hSw; obtain ⟨h0, h1, h2, h3, h4, h5, h6, h7, h8, h9, h10, -⟩ := hSw; go_simp; try rfl)
  try simp only [Act.put, List.setIfInBounds_toArray, List.set_cons_zero, List.set_cons_succ]
  refine seq_take (v := ?v69) ho9_69 (by rfl) ?hv69 ?rest69
  case hv69 => (intro w hSw; obtain ⟨h0, h1, h2, h3, h4, h5, h6, h7, h8, h9, h10, -⟩ := hSw; go_simp; try rfl)
  try simp only [Act.put, List.setIfInBounds_toArray, List.set_cons_zero, List.set_cons_succ]
  refine seq_take (v := ?v71) ho9_71 (by rfl) ?hv71 ?rest71
  case hv71 => (intro w hSw; obtain ⟨h0, h1, h2, h3, h4, h5, h6, h7, h8, h9, h10, -⟩ := hSw; go_simp; try rfl)
  try simp only [Act.put, List.setIfInBounds_toArray, List.set_cons_zero, List.set_cons_succ]
  refine seq_take (v := ?v75) ho9_75 (by rfl) ?hv75 ?rest75
  case hv75 => (intro w hSw; obtain ⟨h0, h1, h2, h3, h4, h5, h6, h7, h8, h9, h10, -⟩ := hSw; go_simp; try rfl)
  try simp only [Act.put, List.setIfInBounds_toArray, List.set_cons_zero, List.set_cons_succ]
  refine seq_run ho9_64 (by rfl) (fun K hK => ?_)
  go_simp
  refine hK.out _ _ (HX _ (by repeat (first | exact Below.refl _ _ | refine balloc ?_ _ | refine bdrew ?_ | refine bup ?_ (by assumption)))) (fun _ => ?_)
  try simp only [Act.put, List.setIfInBounds_toArray, List.set_cons_zero, List.set_cons_succ]
  clear hK K
  refine seq_run ho9_65 (by rfl) (fun K hK => ?_)
  go_simp
  go_at_call 29
  (with_reducible refine (joinK_any _ _ _ _ _).mono ?_)
  rintro e wj ⟨rfl, hbj⟩
  have hv2 := VIn.upd hbj (by first | exact Or.inl rfl | exact Or.inr rfl) (blk2 (k := 2) (HVa _ (by repeat (first | exact Below.refl _ _ | refine balloc ?_ _ | refine bdrew ?_ | refine bup ?_ (by assumption)))) (HVb _ (by repeat (first | exact Below.refl _ _ | refine balloc ?_ _ | refine bdrew ?_ | refine bup ?_ (by assumption)))))
  refine hK.out _ _ (HX _ (by repeat (first | exact Below.refl _ _ | refine balloc ?_ _ | refine bdrew ?_ | refine bup ?_ (by assumption)))) (fun _ => ?_)
  try simp only [Act.put, List.setIfInBounds_toArray, List.set_cons_zero, List.set_cons_succ]
  clear hK K
  refine seq_run ho9_66 (by rfl) (fun K hK => ?_)
  go_simp
  go_at_call 28
  (with_reducible refine (not_V (by first | exact HVa _ (by repeat (first | exact Below.refl _ _ | refine balloc ?_ _ | refine bdrew ?_ | refine bup ?_ (by assumption))) | exact HVb _ (by repeat (first | exact Below.refl _ _ | refine balloc ?_ _ | refine bdrew ?_ | refine bup ?_ (by assumption))) | assumption | exact VIn.up (by assumption) (by repeat (first | exact Below.refl _ _ | refine balloc ?_ _ | refine bdrew ?_ | refine bup ?_ (by assumption))))).mono ?_)
  rintro e wn ⟨g, rfl, hvn, hbn⟩
  refine hK.out _ _ (HX _ (by repeat (first | exact Below.refl _ _ | refine balloc ?_ _ | refine bdrew ?_ | refine bup ?_ (by assumption)))) (fun _ => ?_)
  try simp only [Act.put, List.setIfInBounds_toArray, List.set_cons_zero, List.set_cons_succ]
  clear hK K
  refine seq_run ho9_68 (by rfl) (fun K hK => ?_)
  go_simp
  go_at_call 30
  (with_reducible refine (holds_W (by first | exact HVa _ (by repeat (first | exact Below.refl _ _ | refine balloc ?_ _ | refine bdrew ?_ | refine bup ?_ (by assumption))) | exact HVb _ (by repeat (first | exact Below.refl _ _ | refine balloc ?_ _ | refine bdrew ?_ | refine bup ?_ (by assumption))) | assumption | exact VIn.up (by assumption) (by repeat (first | exact Below.refl _ _ | refine balloc ?_ _ | refine bdrew ?_ | refine bup ?_ (by assumption)))) x1 x2 x3).mono ?_)
  rintro e wh ⟨he, hbh⟩
  rw [E6] at he
  subst he
  refine hK.out _ _ (HX _ (by repeat (first | exact Below.refl _ _ | refine balloc ?_ _ | refine bdrew ?_ | refine bup ?_ (by assumption)))) (fun _ => ?_)
  try simp only [Act.put, List.setIfInBounds_toArray, List.set_cons_zero, List.set_cons_succ]
  clear hK K
  refine seq_run ho9_70 (by rfl) (fun K hK => ?_)
  go_simp
  go_at_call 28
  (with_reducible refine (not_V (by first | exact HVa _ (by repeat (first | exact Below.refl _ _ | refine balloc ?_ _ | refine bdrew ?_ | refine bup ?_ (by assumption))) | exact HVb _ (by repeat (first | exact Below.refl _ _ | refine balloc ?_ _ | refine bdrew ?_ | refine bup ?_ (by assumption))) | assumption | exact VIn.up (by assumption) (by repeat (first | exact Below.refl _ _ | refine balloc ?_ _ | refine bdrew ?_ | refine bup ?_ (by assumption))))).mono ?_)
  rintro e wn ⟨g, rfl, hvn, hbn⟩
  refine hK.out _ _ (HX _ (by repeat (first | exact Below.refl _ _ | refine balloc ?_ _ | refine bdrew ?_ | refine bup ?_ (by assumption)))) (fun _ => ?_)
  try simp only [Act.put, List.setIfInBounds_toArray, List.set_cons_zero, List.set_cons_succ]
  clear hK K
  refine seq_run ho9_72 (by rfl) (fun K hK => ?_)
  go_simp
  go_at_call 28
  (with_reducible refine (not_V (by first | exact HVa _ (by repeat (first | exact Below.refl _ _ | refine balloc ?_ _ | refine bdrew ?_ | refine bup ?_ (by assumption))) | exact HVb _ (by repeat (first | exact Below.refl _ _ | refine balloc ?_ _ | refine bdrew ?_ | refine bup ?_ (by assumption))) | assumption | exact VIn.up (by assumption) (by repeat (first | exact Below.refl _ _ | refine balloc ?_ _ | refine bdrew ?_ | refine bup ?_ (by assumption))))).mono ?_)
  rintro e wn ⟨g, rfl, hvn, hbn⟩
  refine hK.out _ _ (HX _ (by repeat (first | exact Below.refl _ _ | refine balloc ?_ _ | refine bdrew ?_ | refine bup ?_ (by assumption)))) (fun _ => ?_)
  try simp only [Act.put, List.setIfInBounds_toArray, List.set_cons_zero, List.set_cons_succ]
  clear hK K
  refine seq_run ho9_73 (by rfl) (fun K hK => ?_)
  go_simp
  refine hK.out _ _ (HX _ (by repeat (first | exact Below.refl _ _ | refine balloc ?_ _ | refine bdrew ?_ | refine bup ?_ (by assumption)))) (fun _ => ?_)
  try simp only [Act.put, List.setIfInBounds_toArray, List.set_cons_zero, List.set_cons_succ]
  clear hK K
  refine seq_run ho9_74 (by rfl) (fun K hK => ?_)
  go_simp
  go_at_call 29
  (with_reducible refine (joinK_any _ _ _ _ _).mono ?_)
  rintro e wj ⟨rfl, hbj⟩
  have hv3 := VIn.upd hbj (by first | exact Or.inl rfl | exact Or.inr rfl) (blk2 (k := 3) (VIn.up (by assumption) (by repeat (first | exact Below.refl _ _ | refine balloc ?_ _ | refine bdrew ?_ | refine bup ?_ (by assumption)))) (VIn.up (by assumption) (by repeat (first | exact Below.refl _ _ | refine balloc ?_ _ | refine bdrew ?_ | refine bup ?_ (by assumption)))))
  refine hK.out _ _ (HX _ (by repeat (first | exact Below.refl _ _ | refine balloc ?_ _ | refine bdrew ?_ | refine bup ?_ (by assumption)))) (fun _ => ?_)
  try simp only [Act.put, List.setIfInBounds_toArray, List.set_cons_zero, List.set_cons_succ]
  clear hK K
  refine seq_run ho9_76 (by rfl) (fun K hK => ?_)
  go_simp
  go_at_call 30
  (with_reducible refine (holds_W (by first | exact HVa _ (by repeat (first | exact Below.refl _ _ | refine balloc ?_ _ | refine bdrew ?_ | refine bup ?_ (by assumption))) | exact HVb _ (by repeat (first | exact Below.refl _ _ | refine balloc ?_ _ | refine bdrew ?_ | refine bup ?_ (by assumption))) | assumption | exact VIn.up (by assumption) (by repeat (first | exact Below.refl _ _ | refine balloc ?_ _ | refine bdrew ?_ | refine bup ?_ (by assumption)))) x1 x2 x3).mono ?_)
  rintro e wh ⟨he, hbh⟩
  rw [E7] at he
  subst he
  refine hK.out _ _ (HX _ (by repeat (first | exact Below.refl _ _ | refine balloc ?_ _ | refine bdrew ?_ | refine bup ?_ (by assumption)))) (fun _ => ?_)
  try simp only [Act.put, List.setIfInBounds_toArray, List.set_cons_zero, List.set_cons_succ]
  clear hK K
  refine seq_take (v := ?v77) ho9_77 (by rfl) ?hv77 ?rest77
  case hv77 => (intro w _; go_simp; try rfl)
  try simp only [Act.put, List.setIfInBounds_toArray, List.set_cons_zero, List.set_cons_succ]
  refine seq_take (v := ?v78) ho9_78 (by rfl) ?hv78 ?rest78
  case hv78 => (intro w _; go_simp; try rfl)
  try simp only [Act.put, List.setIfInBounds_toArray, List.set_cons_zero, List.set_cons_succ]
  refine seq_take (v := ?v79) ho9_79 (by rfl) ?hv79 ?rest79
  case hv79 => (intro w _; go_simp; try rfl)
  try simp only [Act.put, List.setIfInBounds_toArray, List.set_cons_zero, List.set_cons_succ]
  refine seq_take (v := ?v80) ho9_80 (by rfl) ?hv80 ?rest80
  case hv80 => (intro w hSw; obtain ⟨h0, h1, h2, h3, h4, h5, h6, h7, h8, h9, h10, -⟩ := hSw; go_simp; try rfl)
  try simp only [Act.put, List.setIfInBounds_toArray, List.set_cons_zero, List.set_cons_succ]
  refine seq_take (v := ?v83) ho9_83 (by rfl) ?hv83 ?rest83
  case hv83 => (intro w hSw; obtain ⟨h0, h1, h2, h3, h4, h5, h6, h7, h8, h9, h10, -⟩ := hSw; go_simp; try rfl)
  try simp only [Act.put, List.setIfInBounds_toArray, List.set_cons_zero, List.set_cons_succ]
  refine seq_take (v := ?v85) ho9_85 (by rfl) ?hv85 ?rest85
  case hv85 => (intro w _; go_simp; try rfl)
  try simp only [Act.put, List.setIfInBounds_toArray, List.set_cons_zero, List.set_cons_succ]
  refine seq_run ho9_81 (by rfl) (fun K hK => ?_)
  go_simp
  refine hK.out _ _ (HX _ (by repeat (first | exact Below.refl _ _ | refine balloc ?_ _ | refine bdrew ?_ | refine bup ?_ (by assumption)))) (fun _ => ?_)
  try simp only [Act.put, List.setIfInBounds_toArray, List.set_cons_zero, List.set_cons_succ]
  clear hK K
  refine seq_run ho9_82 (by rfl) (fun K hK => ?_)
  go_simp
  go_at_call 29
  (with_reducible refine (joinK_any _ _ _ _ _).mono ?_)
  rintro e wj ⟨rfl, hbj⟩
  have hv2 := VIn.upd hbj (by first | exact Or.inl rfl | exact Or.inr rfl) (blk1 (k := 2) (HVa _ (by repeat (first | exact Below.refl _ _ | refine balloc ?_ _ | refine bdrew ?_ | refine bup ?_ (by assumption)))))
  refine hK.out _ _ (HX _ (by repeat (first | exact Below.refl _ _ | refine balloc ?_ _ | refine bdrew ?_ | refine bup ?_ (by assumption)))) (fun _ => ?_)
  try simp only [Act.put, List.setIfInBounds_toArray, List.set_cons_zero, List.set_cons_succ]
  clear hK K
  refine seq_run ho9_84 (by rfl) (fun K hK => ?_)
  go_simp
  go_at_call 30
  (with_reducible refine (holds_W (by first | exact HVa _ (by repeat (first | exact Below.refl _ _ | refine balloc ?_ _ | refine bdrew ?_ | refine bup ?_ (by assumption))) | exact HVb _ (by repeat (first | exact Below.refl _ _ | refine balloc ?_ _ | refine bdrew ?_ | refine bup ?_ (by assumption))) | assumption | exact VIn.up (by assumption) (by repeat (first | exact Below.refl _ _ | refine balloc ?_ _ | refine bdrew ?_ | refine bup ?_ (by assumption)))) x1 x2 x3).mono ?_)
  rintro e wh ⟨he, hbh⟩
  rw [E8] at he
  subst he
  refine hK.out _ _ (HX _ (by repeat (first | exact Below.refl _ _ | refine balloc ?_ _ | refine bdrew ?_ | refine bup ?_ (by assumption)))) (fun _ => ?_)
  try simp only [Act.put, List.setIfInBounds_toArray, List.set_cons_zero, List.set_cons_succ]
  clear hK K
  refine seq_take (v := ?v86) ho9_86 (by rfl) ?hv86 ?rest86
  case hv86 => (intro w _; go_simp; try rfl)
  try simp only [Act.put, List.setIfInBounds_toArray, List.set_cons_zero, List.set_cons_succ]
  refine seq_take (v := ?v87) ho9_87 (by rfl) ?hv87 ?rest87
  case hv87 => (intro w _; go_simp; try rfl)
  try simp only [Act.put, List.setIfInBounds_toArray, List.set_cons_zero, List.set_cons_succ]
  refine seq_take (v := ?v88) ho9_88 (by rfl) ?hv88 ?rest88
  case hv88 => (intro w _; go_simp; try rfl)
  try simp only [Act.put, List.setIfInBounds_toArray, List.set_cons_zero, List.set_cons_succ]
  refine seq_end ?_
  exact hEnd _ _ _ _ _ _ _ _ _ _ _ _ _ _ _ _ _ _ _ _ _ _ _ _ _ _ _ _ _ _ _ _ _ _ _ _ _ _ _ _ _ _ _ _ _ _ _ _ _ _ _ _ _ _ _ _ _ _ _ _ _ _ _ _ _ _ _ _ _ _ _ _ _ _ _ _ _ _ _ _ _ _ _ _ _ _ _ _ _ (by repeat (first | exact Below.refl _ _ | refine balloc ?_ _ | refine bdrew ?_ | refine bup ?_ (by assumption)))
end Go.Proofs.YtabdgnigmlpeaaaGreatDoor
