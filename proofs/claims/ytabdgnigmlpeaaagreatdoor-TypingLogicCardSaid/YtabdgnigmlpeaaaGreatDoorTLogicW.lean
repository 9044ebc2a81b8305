/- TypingLogic: its region 6. -/
import Derived.Test.YtabdgnigmlpeaaaGreatDoorTLogicB
import Derived.Test.YtabdgnigmlpeaaaGreatDoorTLogicB
import Derived.Test.YtabdgnigmlpeaaaGreatDoorTLaw2
import Derived.Test.YtabdgnigmlpeaaaGreatDoorTLogic9
import Derived.Deep.RegionHeld3
import Derived.Deep.DeepCutAuto
namespace Go.Proofs.YtabdgnigmlpeaaaGreatDoor
open Go.RowKit

noncomputable def ops6 : Array Oper := (Tryz.f6.body.bind (findOps 6)).getD #[]
def plan6 : List (Bool × Nat) := [(true, 0), (true, 1), (true, 2), (false, 3), (false, 4), (false, 5), (false, 6), (true, 7), (true, 8), (true, 9), (true, 11), (false, 10), (false, 12), (false, 13), (false, 14), (false, 15), (true, 16), (true, 17), (true, 18), (true, 19), (true, 20), (true, 21), (false, 22), (false, 23), (false, 24), (true, 25), (true, 26)]
theorem sel6 : Region.noSelect ops6 = true := by kernel_rfl
theorem len6 : plan6.length ≤ ops6.size := of_decide_eq_true (by kernel_rfl)
theorem ok6 : planOk ops6 plan6 (Array.replicate ops6.size false) = true := by kernel_rfl
theorem ho6_0 : ops6[0]? = some { dst := some 32, op := Op.load 40 (Operand.tmp 3), type := 40, pos := "law.go:88", after := #[], guard := none } := by kernel_rfl
theorem ho6_1 : ops6[1]? = some { dst := some 33, op := Op.load 40 (Operand.tmp 4), type := 40, pos := "law.go:88", after := #[], guard := none } := by kernel_rfl
theorem ho6_2 : ops6[2]? = some { dst := some 34, op := Op.load 40 (Operand.tmp 3), type := 40, pos := "law.go:88", after := #[], guard := none } := by kernel_rfl
theorem ho6_3 : ops6[3]? = some { dst := some 35, op := Op.buildSlice 38 3 #[(0, Operand.tmp 32), (1, Operand.tmp 33), (2, Operand.tmp 34)], type := 38, pos := "law.go:88", after := #[{ on := 0, ground := Ground.data }, { on := 1, ground := Ground.data }, { on := 2, ground := Ground.data }], guard := none } := by kernel_rfl
theorem ho6_4 : ops6[4]? = some { dst := some 36, op := Op.call { callee := Callee.value (Operand.func 29), args := #[Operand.const (Value.int IntKind.i64 2), Operand.tmp 35], argTypes := #[3, 38] }, type := 40, pos := "law.go:88", after := #[{ on := 3, ground := Ground.data }], guard := none } := by kernel_rfl
theorem ho6_5 : ops6[5]? = some { dst := some 37, op := Op.call { callee := Callee.value (Operand.func 28), args := #[Operand.tmp 36], argTypes := #[40] }, type := 40, pos := "law.go:88", after := #[{ on := 4, ground := Ground.data }, { on := 4, ground := Ground.chain }], guard := none } := by kernel_rfl
theorem ho6_6 : ops6[6]? = some { dst := some 38, op := Op.call { callee := Callee.value (Operand.func 16), args := #[Operand.tmp 37], argTypes := #[40] }, type := 36, pos := "law.go:88", after := #[{ on := 5, ground := Ground.data }, { on := 5, ground := Ground.chain }], guard := none } := by kernel_rfl
theorem ho6_7 : ops6[7]? = some { dst := some 39, op := Op.binOp BinOp.neq 36 (Operand.tmp 38) (Operand.const (Value.int IntKind.i64 0)) 36, type := 4, pos := "law.go:88", after := #[{ on := 6, ground := Ground.data }], guard := none } := by kernel_rfl
theorem ho6_8 : ops6[8]? = some { dst := some 40, op := Op.move (Operand.tmp 39), type := 4, pos := "law.go:88", after := #[{ on := 7, ground := Ground.data }, { on := 6, ground := Ground.chain }], guard := none } := by kernel_rfl
theorem ho6_9 : ops6[9]? = some { dst := some 41, op := Op.load 40 (Operand.tmp 3), type := 40, pos := "law.go:88", after := #[{ on := 8, ground := Ground.guard }], guard := some (8, false) } := by kernel_rfl
theorem ho6_10 : ops6[10]? = some { dst := some 42, op := Op.call { callee := Callee.value (Operand.func 28), args := #[Operand.tmp 41], argTypes := #[40] }, type := 40, pos := "law.go:88", after := #[{ on := 9, ground := Ground.data }, { on := 8, ground := Ground.chain }, { on := 8, ground := Ground.guard }], guard := some (8, false) } := by kernel_rfl
theorem ho6_11 : ops6[11]? = some { dst := some 43, op := Op.load 40 (Operand.tmp 4), type := 40, pos := "law.go:88", after := #[{ on := 8, ground := Ground.guard }], guard := some (8, false) } := by kernel_rfl
theorem ho6_12 : ops6[12]? = some { dst := some 44, op := Op.call { callee := Callee.value (Operand.func 28), args := #[Operand.tmp 43], argTypes := #[40] }, type := 40, pos := "law.go:88", after := #[{ on := 11, ground := Ground.data }, { on := 10, ground := Ground.chain }, { on := 8, ground := Ground.guard }], guard := some (8, false) } := by kernel_rfl
theorem ho6_13 : ops6[13]? = some { dst := some 45, op := Op.buildSlice 38 2 #[(0, Operand.tmp 42), (1, Operand.tmp 44)], type := 38, pos := "law.go:88", after := #[{ on := 10, ground := Ground.data }, { on := 12, ground := Ground.data }, { on := 8, ground := Ground.guard }], guard := some (8, false) } := by kernel_rfl
theorem ho6_14 : ops6[14]? = some { dst := some 46, op := Op.call { callee := Callee.value (Operand.func 29), args := #[Operand.const (Value.int IntKind.i64 3), Operand.tmp 45], argTypes := #[3, 38] }, type := 40, pos := "law.go:88", after := #[{ on := 13, ground := Ground.data }, { on := 12, ground := Ground.chain }, { on := 8, ground := Ground.guard }], guard := some (8, false) } := by kernel_rfl
theorem ho6_15 : ops6[15]? = some { dst := some 47, op := Op.call { callee := Callee.value (Operand.func 16), args := #[Operand.tmp 46], argTypes := #[40] }, type := 36, pos := "law.go:88", after := #[{ on := 14, ground := Ground.data }, { on := 14, ground := Ground.chain }, { on := 8, ground := Ground.guard }], guard := some (8, false) } := by kernel_rfl
theorem ho6_16 : ops6[16]? = some { dst := some 48, op := Op.binOp BinOp.neq 36 (Operand.tmp 47) (Operand.const (Value.int IntKind.i64 0)) 36, type := 4, pos := "law.go:88", after := #[{ on := 15, ground := Ground.data }, { on := 8, ground := Ground.guard }], guard := some (8, false) } := by kernel_rfl
theorem ho6_17 : ops6[17]? = some { dst := some 49, op := Op.pick (Operand.tmp 40) (Operand.const (Value.bool true)) (Operand.tmp 48), type := 4, pos := "law.go:88", after := #[{ on := 8, ground := Ground.data }, { on := 16, ground := Ground.data }], guard := none } := by kernel_rfl
theorem ho6_18 : ops6[18]? = some { dst := some 50, op := Op.move (Operand.tmp 49), type := 4, pos := "law.go:88", after := #[{ on := 17, ground := Ground.data }, { on := 15, ground := Ground.chain }], guard := none } := by kernel_rfl
theorem ho6_19 : ops6[19]? = some { dst := some 51, op := Op.load 40 (Operand.tmp 4), type := 40, pos := "law.go:88", after := #[{ on := 18, ground := Ground.guard }], guard := some (18, false) } := by kernel_rfl
theorem ho6_20 : ops6[20]? = some { dst := some 52, op := Op.load 40 (Operand.tmp 3), type := 40, pos := "law.go:88", after := #[{ on := 18, ground := Ground.guard }], guard := some (18, false) } := by kernel_rfl
theorem ho6_21 : ops6[21]? = some { dst := some 53, op := Op.load 40 (Operand.tmp 4), type := 40, pos := "law.go:88", after := #[{ on := 18, ground := Ground.guard }], guard := some (18, false) } := by kernel_rfl
theorem ho6_22 : ops6[22]? = some { dst := some 54, op := Op.buildSlice 38 3 #[(0, Operand.tmp 51), (1, Operand.tmp 52), (2, Operand.tmp 53)], type := 38, pos := "law.go:88", after := #[{ on := 19, ground := Ground.data }, { on := 20, ground := Ground.data }, { on := 21, ground := Ground.data }, { on := 18, ground := Ground.guard }], guard := some (18, false) } := by kernel_rfl
theorem ho6_23 : ops6[23]? = some { dst := some 55, op := Op.call { callee := Callee.value (Operand.func 29), args := #[Operand.const (Value.int IntKind.i64 2), Operand.tmp 54], argTypes := #[3, 38] }, type := 40, pos := "law.go:88", after := #[{ on := 22, ground := Ground.data }, { on := 18, ground := Ground.chain }, { on := 18, ground := Ground.guard }], guard := some (18, false) } := by kernel_rfl
theorem ho6_24 : ops6[24]? = some { dst := some 56, op := Op.call { callee := Callee.value (Operand.func 16), args := #[Operand.tmp 55], argTypes := #[40] }, type := 36, pos := "law.go:88", after := #[{ on := 23, ground := Ground.data }, { on := 23, ground := Ground.chain }, { on := 18, ground := Ground.guard }], guard := some (18, false) } := by kernel_rfl
theorem ho6_25 : ops6[25]? = some { dst := some 57, op := Op.binOp BinOp.neq 36 (Operand.tmp 56) (Operand.const (Value.int IntKind.i64 0)) 36, type := 4, pos := "law.go:88", after := #[{ on := 24, ground := Ground.data }, { on := 18, ground := Ground.guard }], guard := some (18, false) } := by kernel_rfl
theorem ho6_26 : ops6[26]? = some { dst := some 58, op := Op.pick (Operand.tmp 50) (Operand.const (Value.bool true)) (Operand.tmp 57), type := 4, pos := "law.go:88", after := #[{ on := 18, ground := Ground.data }, { on := 25, ground := Ground.data }], guard := none } := by kernel_rfl
set_option maxHeartbeats 40000000 in
set_option maxRecDepth 100000 in
theorem log6ok (V : World) (ba bb be : Nat) (a b : Cd) (pa pb : Option Addr) (ca cb : Nat) (x1 x2 x3 : Int) (HX : ∀ w', Below V.heap.size V w' → w'.cell? ⟨ba, 0, none⟩ = some (.int .i64 a.k) ∧ w'.cell? ⟨ba, 1, none⟩ = some (.int .i64 a.v) ∧ w'.cell? ⟨ba, 2, none⟩ = some (.int .i64 a.n) ∧ w'.cell? ⟨ba, 3, none⟩ = some (.slice pa a.ps.length ca) ∧ w'.cell? ⟨bb, 0, none⟩ = some (.int .i64 b.k) ∧ w'.cell? ⟨bb, 1, none⟩ = some (.int .i64 b.v) ∧ w'.cell? ⟨bb, 2, none⟩ = some (.int .i64 b.n) ∧ w'.cell? ⟨bb, 3, none⟩ = some (.slice pb b.ps.length cb) ∧ w'.cell? ⟨be, 0, none⟩ = some (.int .i64 x1) ∧ w'.cell? ⟨be, 1, none⟩ = some (.int .i64 x2) ∧ w'.cell? ⟨be, 2, none⟩ = some (.int .i64 x3) ∧ Hid (Below V.heap.size V w'))
    (HVa : ∀ W, Below V.heap.size V W → VIn W (.agg #[.int .i64 a.k, .int .i64 a.v, .int .i64 a.n, .slice pa a.ps.length ca]) a) (HVb : ∀ W, Below V.heap.size V W → VIn W (.agg #[.int .i64 b.k, .int .i64 b.v, .int .i64 b.n, .slice pb b.ps.length cb]) b) (C0 : condE (notC (joinC 2 [a, b, a])) = 0) (C1 : condE (joinC 3 [notC a, notC b]) = 0) (C2 : condE (joinC 2 [b, a, b]) = 0)
    {Q : Exit → Act → World → Prop} (hQ0 : ∀ c a d v w, Q (.panic c) (Act.put a d v) w → Q (.panic c) a w) (w : World) (hbw : Below V.heap.size V w) (u0 u1 u2 u5 u6 u8 u9 u10 u11 u12 u13 u14 u15 u16 u17 u18 u19 u20 u21 u22 u23 u24 u25 u26 u27 u28 u29 u30 u31 u32 u33 u34 u35 u36 u37 u38 u39 u40 u41 u42 u43 u44 u45 u46 u47 u48 u49 u50 u51 u52 u53 u54 u55 u56 u57 u58 u59 u60 u61 u62 u63 u64 u65 u66 u67 u68 u69 u70 u71 u72 u73 u74 u75 u76 u77 u78 u79 u80 u81 u82 u83 u84 u85 u86 u87 u88 u89 u90 u91 u92 u93 u94 u95 u96 u97 u98 u99 u100 u101 u102 u103 u104 u105 u106 u107 u108 u109 u110 u111 u112 u113 u114 u115 u116 u117 u118 u119 u120 u121 u122 u123 u124 u125 u126 u127 u128 u129 u130 u131 u132 u133 u134 u135 u136 u137 u138 u139 u140 u141 u142 u143 u144 u145 u146 u147 u148 u149 u150 u151 u152 : Value)
    (hEnd : ∀ (z32 z33 z34 z35 z36 z37 z38 z39 z40 z41 z42 z43 z44 z45 z46 z47 z48 z49 z50 z51 z52 z53 z54 z55 z56 z57 : Value) (w' : World), Below V.heap.size V w' → Q .normal ⟨#[u0, u1, u2, .pointer (some ⟨ba, 0, none⟩), .pointer (some ⟨bb, 0, none⟩), u5, u6, .pointer (some ⟨be, 0, none⟩), u8, u9, u10, u11, u12, u13, u14, u15, u16, u17, u18, u19, u20, u21, u22, u23, u24, u25, u26, u27, u28, u29, u30, u31, z32, z33, z34, z35, z36, z37, z38, z39, z40, z41, z42, z43, z44, z45, z46, z47, z48, z49, z50, z51, z52, z53, z54, z55, z56, z57, .bool false, u59, u60, u61, u62, u63, u64, u65, u66, u67, u68, u69, u70, u71, u72, u73, u74, u75, u76, u77, u78, u79, u80, u81, u82, u83, u84, u85, u86, u87, u88, u89, u90, u91, u92, u93, u94, u95, u96, u97, u98, u99, u100, u101, u102, u103, u104, u105, u106, u107, u108, u109, u110, u111, u112, u113, u114, u115, u116, u117, u118, u119, u120, u121, u122, u123, u124, u125, u126, u127, u128, u129, u130, u131, u132, u133, u134, u135, u136, u137, u138, u139, u140, u141, u142, u143, u144, u145, u146, u147, u148, u149, u150, u151, u152], []⟩ w') :
    (Code.region 6 ops6 true).wp Tryz.prog Q ⟨#[u0, u1, u2, .pointer (some ⟨ba, 0, none⟩), .pointer (some ⟨bb, 0, none⟩), u5, u6, .pointer (some ⟨be, 0, none⟩), u8, u9, u10, u11, u12, u13, u14, u15, u16, u17, u18, u19, u20, u21, u22, u23, u24, u25, u26, u27, u28, u29, u30, u31, u32, u33, u34, u35, u36, u37, u38, u39, u40, u41, u42, u43, u44, u45, u46, u47, u48, u49, u50, u51, u52, u53, u54, u55, u56, u57, u58, u59, u60, u61, u62, u63, u64, u65, u66, u67, u68, u69, u70, u71, u72, u73, u74, u75, u76, u77, u78, u79, u80, u81, u82, u83, u84, u85, u86, u87, u88, u89, u90, u91, u92, u93, u94, u95, u96, u97, u98, u99, u100, u101, u102, u103, u104, u105, u106, u107, u108, u109, u110, u111, u112, u113, u114, u115, u116, u117, u118, u119, u120, u121, u122, u123, u124, u125, u126, u127, u128, u129, u130, u131, u132, u133, u134, u135, u136, u137, u138, u139, u140, u141, u142, u143, u144, u145, u146, u147, u148, u149, u150, u151, u152], []⟩ w := by
  refine region_plan (S := fun w' => w'.cell? ⟨ba, 0, none⟩ = some (.int .i64 a.k) ∧ w'.cell? ⟨ba, 1, none⟩ = some (.int .i64 a.v) ∧ w'.cell? ⟨ba, 2, none⟩ = some (.int .i64 a.n) ∧ w'.cell? ⟨ba, 3, none⟩ = some (.slice pa a.ps.length ca) ∧ w'.cell? ⟨bb, 0, none⟩ = some (.int .i64 b.k) ∧ w'.cell? ⟨bb, 1, none⟩ = some (.int .i64 b.v) ∧ w'.cell? ⟨bb, 2, none⟩ = some (.int .i64 b.n) ∧ w'.cell? ⟨bb, 3, none⟩ = some (.slice pb b.ps.length cb) ∧ w'.cell? ⟨be, 0, none⟩ = some (.int .i64 x1) ∧ w'.cell? ⟨be, 1, none⟩ = some (.int .i64 x2) ∧ w'.cell? ⟨be, 2, none⟩ = some (.int .i64 x3) ∧ Hid (Below V.heap.size V w')) (by kernel_rfl) sel6 hQ0 plan6 len6 ok6 (HX _ (by repeat (first | exact Below.refl _ _ | refine balloc ?_ _ | refine bdrew ?_ | refine bup ?_ (by assumption)))) ?_
  unfold plan6
  refine seq_take (v := ?v0) ho6_0 (by rfl) ?hv0 ?rest0
  case hv0 => (intro w hSw; obtain ⟨h0, h1, h2, h3, h4, h5, h6, h7, h8, h9, h10, -⟩ := hSw; go_simp; try rfl)
  try simp only [Act.put, List.setIfInBounds_toArray, List.set_cons_zero, List.set_cons_succ]
  refine seq_take (v := ?v1) ho6_1 (by rfl) ?hv1 ?rest1
  case hv1 => (intro w hSw; obtain ⟨h0, h1, h2, h3, h4, h5, h6, h7, h8, h9, h10, -⟩ := hSw; go_simp; try rfl)
  try simp only [Act.put, List.setIfInBounds_toArray, List.set_cons_zero, List.set_cons_succ]
  refine seq_take (v := ?v2) ho6_2 (by rfl) ?hv2 ?rest2
  case hv2 => (intro w hSw; obtain ⟨h0, h1, h2, h3, h4, h5, h6, h7, h8, h9, h10, -⟩ := hSw; go_simp; try rfl)
  try simp only [Act.put, List.setIfInBounds_toArray, List.set_cons_zero, List.set_cons_succ]
  refine seq_run ho6_3 (by rfl) (fun K hK => ?_)
  go_simp
  refine hK.out _ _ (HX _ (by repeat (first | exact Below.refl _ _ | refine balloc ?_ _ | refine bdrew ?_ | refine bup ?_ (by assumption)))) (fun _ => ?_)
  try simp only [Act.put, List.setIfInBounds_toArray, List.set_cons_zero, List.set_cons_succ]
  clear hK K
  refine seq_run ho6_4 (by rfl) (fun K hK => ?_)
  go_simp
  go_at_call 29
  (with_reducible refine (joinK_any _ _ _ _ _).mono ?_)
  rintro e wj ⟨rfl, hbj⟩
  have hv2 := VIn.upd hbj (by first | exact Or.inl rfl | exact Or.inr rfl) (blk3 (k := 2) (HVa _ (by repeat (first | exact Below.refl _ _ | refine balloc ?_ _ | refine bdrew ?_ | refine bup ?_ (by assumption)))) (HVb _ (by repeat (first | exact Below.refl _ _ | refine balloc ?_ _ | refine bdrew ?_ | refine bup ?_ (by assumption)))) (HVa _ (by repeat (first | exact Below.refl _ _ | refine balloc ?_ _ | refine bdrew ?_ | refine bup ?_ (by assumption)))))
  refine hK.out _ _ (HX _ (by repeat (first | exact Below.refl _ _ | refine balloc ?_ _ | refine bdrew ?_ | refine bup ?_ (by assumption)))) (fun _ => ?_)
  try simp only [Act.put, List.setIfInBounds_toArray, List.set_cons_zero, List.set_cons_succ]
  clear hK K
  refine seq_run ho6_5 (by rfl) (fun K hK => ?_)
  go_simp
  go_at_call 28
  (with_reducible refine (not_V (by first | exact HVa _ (by repeat (first | exact Below.refl _ _ | refine balloc ?_ _ | refine bdrew ?_ | refine bup ?_ (by assumption))) | exact HVb _ (by repeat (first | exact Below.refl _ _ | refine balloc ?_ _ | refine bdrew ?_ | refine bup ?_ (by assumption))) | assumption | exact VIn.up (by assumption) (by repeat (first | exact Below.refl _ _ | refine balloc ?_ _ | refine bdrew ?_ | refine bup ?_ (by assumption))))).mono ?_)
  rintro e wn ⟨g, rfl, hvn, hbn⟩
  refine hK.out _ _ (HX _ (by repeat (first | exact Below.refl _ _ | refine balloc ?_ _ | refine bdrew ?_ | refine bup ?_ (by assumption)))) (fun _ => ?_)
  try simp only [Act.put, List.setIfInBounds_toArray, List.set_cons_zero, List.set_cons_succ]
  clear hK K
  refine seq_run ho6_6 (by rfl) (fun K hK => ?_)
  go_simp
  go_at_call 16
  (with_reducible refine (cond_V (by first | exact HVa _ (by repeat (first | exact Below.refl _ _ | refine balloc ?_ _ | refine bdrew ?_ | refine bup ?_ (by assumption))) | exact HVb _ (by repeat (first | exact Below.refl _ _ | refine balloc ?_ _ | refine bdrew ?_ | refine bup ?_ (by assumption))) | assumption | exact VIn.up (by assumption) (by repeat (first | exact Below.refl _ _ | refine balloc ?_ _ | refine bdrew ?_ | refine bup ?_ (by assumption))))).mono ?_)
  rintro e wh ⟨he, hbh⟩
  rw [C0] at he
  subst he
  refine hK.out _ _ (HX _ (by repeat (first | exact Below.refl _ _ | refine balloc ?_ _ | refine bdrew ?_ | refine bup ?_ (by assumption)))) (fun _ => ?_)
  try simp only [Act.put, List.setIfInBounds_toArray, List.set_cons_zero, List.set_cons_succ]
  clear hK K
  refine seq_take (v := ?v7) ho6_7 (by rfl) ?hv7 ?rest7
  case hv7 => (intro w _; go_simp; try rfl)
  try simp only [Act.put, List.setIfInBounds_toArray, List.set_cons_zero, List.set_cons_succ]
  refine seq_take (v := ?v8) ho6_8 (by rfl) ?hv8 ?rest8
  case hv8 => (intro w _; go_simp; try rfl)
  try simp only [Act.put, List.setIfInBounds_toArray, List.set_cons_zero, List.set_cons_succ]
  refine seq_take (v := ?v9) ho6_9 (by rfl) ?hv9 ?rest9
  case hv9 => (intro w hSw; obtain ⟨h0, h1, h2, h3, h4, h5, h6, h7, h8, h9, h10, -⟩ := hSw; go_simp; try rfl)
  try simp only [Act.put, List.setIfInBounds_toArray, List.set_cons_zero, List.set_cons_succ]
  refine seq_take (v := ?v11) ho6_11 (by rfl) ?hv11 ?rest11
  case hv11 => (intro w hSw; obtain ⟨h0, h1, h2, h3, h4, h5, h6, h7, h8, h9, h10, -⟩ := hSw; go_simp; try rfl)
  try simp only [Act.put, List.setIfInBounds_toArray, List.set_cons_zero, List.set_cons_succ]
  refine seq_run ho6_10 (by rfl) (fun K hK => ?_)
  go_simp
  go_at_call 28
  (with_reducible refine (not_V (by first | exact HVa _ (by repeat (first | exact Below.refl _ _ | refine balloc ?_ _ | refine bdrew ?_ | refine bup ?_ (by assumption))) | exact HVb _ (by repeat (first | exact Below.refl _ _ | refine balloc ?_ _ | refine bdrew ?_ | refine bup ?_ (by assumption))) | assumption | exact VIn.up (by assumption) (by repeat (first | exact Below.refl _ _ | refine balloc ?_ _ | refine bdrew ?_ | refine bup ?_ (by assumption))))).mono ?_)
  rintro e wn ⟨g, rfl, hvn, hbn⟩
  refine hK.out _ _ (HX _ (by repeat (first | exact Below.refl _ _ | refine balloc ?_ _ | refine bdrew ?_ | refine bup ?_ (by assumption)))) (fun _ => ?_)
  try simp only [Act.put, List.setIfInBounds_toArray, List.set_cons_zero, List.set_cons_succ]
  clear hK K
  refine seq_run ho6_12 (by rfl) (fun K hK => ?_)
  go_simp
  go_at_call 28
  (with_reducible refine (not_V (by first | exact HVa _ (by repeat (first | exact Below.refl _ _ | refine balloc ?_ _ | refine bdrew ?_ | refine bup ?_ (by assumption))) | exact HVb _ (by repeat (first | exact Below.refl _ _ | refine balloc ?_ _ | refine bdrew ?_ | refine bup ?_ (by assumption))) | assumption | exact VIn.up (by assumption) (by repeat (first | exact Below.refl _ _ | refine balloc ?_ _ | refine bdrew ?_ | refine bup ?_ (by assumption))))).mono ?_)
  rintro e wn ⟨g, rfl, hvn, hbn⟩
  refine hK.out _ _ (HX _ (by repeat (first | exact Below.refl _ _ | refine balloc ?_ _ | refine bdrew ?_ | refine bup ?_ (by assumption)))) (fun _ => ?_)
  try simp only [Act.put, List.setIfInBounds_toArray, List.set_cons_zero, List.set_cons_succ]
  clear hK K
  refine seq_run ho6_13 (by rfl) (fun K hK => ?_)
  go_simp
  refine hK.out _ _ (HX _ (by repeat (first | exact Below.refl _ _ | refine balloc ?_ _ | refine bdrew ?_ | refine bup ?_ (by assumption)))) (fun _ => ?_)
  try simp only [Act.put, List.setIfInBounds_toArray, List.set_cons_zero, List.set_cons_succ]
  clear hK K
  refine seq_run ho6_14 (by rfl) (fun K hK => ?_)
  go_simp
  go_at_call 29
  (with_reducible refine (joinK_any _ _ _ _ _).mono ?_)
  rintro e wj ⟨rfl, hbj⟩
  have hv3 := VIn.upd hbj (by first | exact Or.inl rfl | exact Or.inr rfl) (blk2 (k := 3) (VIn.up (by assumption) (by repeat (first | exact Below.refl _ _ | refine balloc ?_ _ | refine bdrew ?_ | refine bup ?_ (by assumption)))) (VIn.up (by assumption) (by repeat (first | exact Below.refl _ _ | refine balloc ?_ _ | refine bdrew ?_ | refine bup ?_ (by assumption)))))
  refine hK.out _ _ (HX _ (by repeat (first | exact Below.refl _ _ | refine balloc ?_ _ | refine bdrew ?_ | refine bup ?_ (by assumption)))) (fun _ => ?_)
  try simp only [Act.put, List.setIfInBounds_toArray, List.set_cons_zero, List.set_cons_succ]
  clear hK K
  refine seq_run ho6_15 (by rfl) (fun K hK => ?_)
  go_simp
  go_at_call 16
  (with_reducible refine (cond_V (by first | exact HVa _ (by repeat (first | exact Below.refl _ _ | refine balloc ?_ _ | refine bdrew ?_ | refine bup ?_ (by assumption))) | exact HVb _ (by repeat (first | exact Below.refl _ _ | refine balloc ?_ _ | refine bdrew ?_ | refine bup ?_ (by assumption))) | assumption | exact VIn.up (by assumption) (by repeat (first | exact Below.refl _ _ | refine balloc ?_ _ | refine bdrew ?_ | refine bup ?_ (by assumption))))).mono ?_)
  rintro e wh ⟨he, hbh⟩
  rw [C1] at he
  subst he
  refine hK.out _ _ (HX _ (by repeat (first | exact Below.refl _ _ | refine balloc ?_ _ | refine bdrew ?_ | refine bup ?_ (by assumption)))) (fun _ => ?_)
  try simp only [Act.put, List.setIfInBounds_toArray, List.set_cons_zero, List.set_cons_succ]
  clear hK K
  refine seq_take (v := ?v16) ho6_16 (by rfl) ?hv16 ?rest16
  case hv16 => (intro w _; go_simp; try rfl)
  try simp only [Act.put, List.setIfInBounds_toArray, List.set_cons_zero, List.set_cons_succ]
  refine seq_take (v := ?v17) ho6_17 (by rfl) ?hv17 ?rest17
  case hv17 => (intro w _; go_simp; try rfl)
  try simp only [Act.put, List.setIfInBounds_toArray, List.set_cons_zero, List.set_cons_succ]
  refine seq_take (v := ?v18) ho6_18 (by rfl) ?hv18 ?rest18
  case hv18 => (intro w _; go_simp; try rfl)
  try simp only [Act.put, List.setIfInBounds_toArray, List.set_cons_zero, List.set_cons_succ]
  refine seq_take (v := ?v19) ho6_19 (by rfl) ?hv19 ?rest19
  case hv19 => (intro w hSw; obtain ⟨h0, h1, h2, h3, h4, h5, h6, h7, h8, h9, h10, -⟩ := hSw; go_simp; try rfl)
  try simp only [Act.put, List.setIfInBounds_toArray, List.set_cons_zero, List.set_cons_succ]
  refine seq_take (v := ?v20) ho6_20 (by rfl) ?hv20 ?rest20
  case hv20 => (intro w hSw; obtain ⟨h0, h1, h2, h3, h4, h5, h6, h7, h8, h9, h10, -⟩ := hSw; go_simp; try rfl)
  try simp only [Act.put, List.setIfInBounds_toArray, List.set_cons_zero, List.set_cons_succ]
  refine seq_take (v := ?v21) ho6_21 (by rfl) ?hv21 ?rest21
  case hv21 => (intro w hSw; obtain ⟨h0, h1, h2, h3, h4, h5, h6, h7, h8, h9, h10, -⟩ := hSw; go_simp; try rfl)
  try simp only [Act.put, List.setIfInBounds_toArray, List.set_cons_zero, List.set_cons_succ]
  refine seq_run ho6_22 (by rfl) (fun K hK => ?_)
  go_simp
  refine hK.out _ _ (HX _ (by repeat (first | exact Below.refl _ _ | refine balloc ?_ _ | refine bdrew ?_ | refine bup ?_ (by assumption)))) (fun _ => ?_)
  try simp only [Act.put, List.setIfInBounds_toArray, List.set_cons_zero, List.set_cons_succ]
  clear hK K
  refine seq_run ho6_23 (by rfl) (fun K hK => ?_)
  go_simp
  go_at_call 29
  (with_reducible refine (joinK_any _ _ _ _ _).mono ?_)
  rintro e wj ⟨rfl, hbj⟩
  have hv2 := VIn.upd hbj (by first | exact Or.inl rfl | exact Or.inr rfl) (blk3 (k := 2) (HVb _ (by repeat (first | exact Below.refl _ _ | refine balloc ?_ _ | refine bdrew ?_ | refine bup ?_ (by assumption)))) (HVa _ (by repeat (first | exact Below.refl _ _ | refine balloc ?_ _ | refine bdrew ?_ | refine bup ?_ (by assumption)))) (HVb _ (by repeat (first | exact Below.refl _ _ | refine balloc ?_ _ | refine bdrew ?_ | refine bup ?_ (by assumption)))))
  refine hK.out _ _ (HX _ (by repeat (first | exact Below.refl _ _ | refine balloc ?_ _ | refine bdrew ?_ | refine bup ?_ (by assumption)))) (fun _ => ?_)
  try simp only [Act.put, List.setIfInBounds_toArray, List.set_cons_zero, List.set_cons_succ]
  clear hK K
  refine seq_run ho6_24 (by rfl) (fun K hK => ?_)
  go_simp
  go_at_call 16
  (with_reducible refine (cond_V (by first | exact HVa _ (by repeat (first | exact Below.refl _ _ | refine balloc ?_ _ | refine bdrew ?_ | refine bup ?_ (by assumption))) | exact HVb _ (by repeat (first | exact Below.refl _ _ | refine balloc ?_ _ | refine bdrew ?_ | refine bup ?_ (by assumption))) | assumption | exact VIn.up (by assumption) (by repeat (first | exact Below.refl _ _ | refine balloc ?_ _ | refine bdrew ?_ | refine bup ?_ (by assumption))))).mono ?_)
  rintro e wh ⟨he, hbh⟩
  rw [C2] at he
  subst he
  refine hK.out _ _ (HX _ (by repeat (first | exact Below.refl _ _ | refine balloc ?_ _ | refine bdrew ?_ | refine bup ?_ (by assumption)))) (fun _ => ?_)
  try simp only [Act.put, List.setIfInBounds_toArray, List.set_cons_zero, List.set_cons_succ]
  clear hK K
  refine seq_take (v := ?v25) ho6_25 (by rfl) ?hv25 ?rest25
  case hv25 => (intro w _; go_simp; try rfl)
  try simp only [Act.put, List.setIfInBounds_toArray, List.set_cons_zero, List.set_cons_succ]
  refine seq_take (v := ?v26) ho6_26 (by rfl) ?hv26 ?rest26
  case hv26 => (intro w _; go_simp; try rfl)
  try simp only [Act.put, List.setIfInBounds_toArray, List.set_cons_zero, List.set_cons_succ]
  refine seq_end ?_
  exact hEnd _ _ _ _ _ _ _ _ _ _ _ _ _ _ _ _ _ _ _ _ _ _ _ _ _ _ _ (by repeat (first | exact Below.refl _ _ | refine balloc ?_ _ | refine bdrew ?_ | refine bup ?_ (by assumption)))
set_option maxHeartbeats 40000000 in
set_option maxRecDepth 100000 in
theorem log6f6 (V : World) (ba bb be : Nat) (a b : Cd) (pa pb : Option Addr) (ca cb : Nat) (x1 x2 x3 : Int) (HX : ∀ w', Below V.heap.size V w' → w'.cell? ⟨ba, 0, none⟩ = some (.int .i64 a.k) ∧ w'.cell? ⟨ba, 1, none⟩ = some (.int .i64 a.v) ∧ w'.cell? ⟨ba, 2, none⟩ = some (.int .i64 a.n) ∧ w'.cell? ⟨ba, 3, none⟩ = some (.slice pa a.ps.length ca) ∧ w'.cell? ⟨bb, 0, none⟩ = some (.int .i64 b.k) ∧ w'.cell? ⟨bb, 1, none⟩ = some (.int .i64 b.v) ∧ w'.cell? ⟨bb, 2, none⟩ = some (.int .i64 b.n) ∧ w'.cell? ⟨bb, 3, none⟩ = some (.slice pb b.ps.length cb) ∧ w'.cell? ⟨be, 0, none⟩ = some (.int .i64 x1) ∧ w'.cell? ⟨be, 1, none⟩ = some (.int .i64 x2) ∧ w'.cell? ⟨be, 2, none⟩ = some (.int .i64 x3) ∧ Hid (Below V.heap.size V w'))
    (HVa : ∀ W, Below V.heap.size V W → VIn W (.agg #[.int .i64 a.k, .int .i64 a.v, .int .i64 a.n, .slice pa a.ps.length ca]) a) (HVb : ∀ W, Below V.heap.size V W → VIn W (.agg #[.int .i64 b.k, .int .i64 b.v, .int .i64 b.n, .slice pb b.ps.length cb]) b) (C0 : (condE (notC (joinC 2 [a, b, a])) != 0) = true)
    {Q : Exit → Act → World → Prop} (hQ0 : ∀ c a d v w, Q (.panic c) (Act.put a d v) w → Q (.panic c) a w) (w : World) (hbw : Below V.heap.size V w) (u0 u1 u2 u5 u6 u8 u9 u10 u11 u12 u13 u14 u15 u16 u17 u18 u19 u20 u21 u22 u23 u24 u25 u26 u27 u28 u29 u30 u31 u32 u33 u34 u35 u36 u37 u38 u39 u40 u41 u42 u43 u44 u45 u46 u47 u48 u49 u50 u51 u52 u53 u54 u55 u56 u57 u58 u59 u60 u61 u62 u63 u64 u65 u66 u67 u68 u69 u70 u71 u72 u73 u74 u75 u76 u77 u78 u79 u80 u81 u82 u83 u84 u85 u86 u87 u88 u89 u90 u91 u92 u93 u94 u95 u96 u97 u98 u99 u100 u101 u102 u103 u104 u105 u106 u107 u108 u109 u110 u111 u112 u113 u114 u115 u116 u117 u118 u119 u120 u121 u122 u123 u124 u125 u126 u127 u128 u129 u130 u131 u132 u133 u134 u135 u136 u137 u138 u139 u140 u141 u142 u143 u144 u145 u146 u147 u148 u149 u150 u151 u152 : Value)
    (hEnd : ∀ (z32 z33 z34 z35 z36 z37 z38 z39 z40 z41 z42 z43 z44 z45 z46 z47 z48 z49 z50 z51 z52 z53 z54 z55 z56 z57 : Value) (w' : World), Below V.heap.size V w' → Q .normal ⟨#[u0, u1, u2, .pointer (some ⟨ba, 0, none⟩), .pointer (some ⟨bb, 0, none⟩), u5, u6, .pointer (some ⟨be, 0, none⟩), u8, u9, u10, u11, u12, u13, u14, u15, u16, u17, u18, u19, u20, u21, u22, u23, u24, u25, u26, u27, u28, u29, u30, u31, z32, z33, z34, z35, z36, z37, z38, z39, z40, z41, z42, z43, z44, z45, z46, z47, z48, z49, z50, z51, z52, z53, z54, z55, z56, z57, .bool true, u59, u60, u61, u62, u63, u64, u65, u66, u67, u68, u69, u70, u71, u72, u73, u74, u75, u76, u77, u78, u79, u80, u81, u82, u83, u84, u85, u86, u87, u88, u89, u90, u91, u92, u93, u94, u95, u96, u97, u98, u99, u100, u101, u102, u103, u104, u105, u106, u107, u108, u109, u110, u111, u112, u113, u114, u115, u116, u117, u118, u119, u120, u121, u122, u123, u124, u125, u126, u127, u128, u129, u130, u131, u132, u133, u134, u135, u136, u137, u138, u139, u140, u141, u142, u143, u144, u145, u146, u147, u148, u149, u150, u151, u152], []⟩ w') :
    (Code.region 6 ops6 true).wp Tryz.prog Q ⟨#[u0, u1, u2, .pointer (some ⟨ba, 0, none⟩), .pointer (some ⟨bb, 0, none⟩), u5, u6, .pointer (some ⟨be, 0, none⟩), u8, u9, u10, u11, u12, u13, u14, u15, u16, u17, u18, u19, u20, u21, u22, u23, u24, u25, u26, u27, u28, u29, u30, u31, u32, u33, u34, u35, u36, u37, u38, u39, u40, u41, u42, u43, u44, u45, u46, u47, u48, u49, u50, u51, u52, u53, u54, u55, u56, u57, u58, u59, u60, u61, u62, u63, u64, u65, u66, u67, u68, u69, u70, u71, u72, u73, u74, u75, u76, u77, u78, u79, u80, u81, u82, u83, u84, u85, u86, u87, u88, u89, u90, u91, u92, u93, u94, u95, u96, u97, u98, u99, u100, u101, u102, u103, u104, u105, u106, u107, u108, u109, u110, u111, u112, u113, u114, u115, u116, u117, u118, u119, u120, u121, u122, u123, u124, u125, u126, u127, u128, u129, u130, u131, u132, u133, u134, u135, u136, u137, u138, u139, u140, u141, u142, u143, u144, u145, u146, u147, u148, u149, u150, u151, u152], []⟩ w := by
  refine region_plan (S := fun w' => w'.cell? ⟨ba, 0, none⟩ = some (.int .i64 a.k) ∧ w'.cell? ⟨ba, 1, none⟩ = some (.int .i64 a.v) ∧ w'.cell? ⟨ba, 2, none⟩ = some (.int .i64 a.n) ∧ w'.cell? ⟨ba, 3, none⟩ = some (.slice pa a.ps.length ca) ∧ w'.cell? ⟨bb, 0, none⟩ = some (.int .i64 b.k) ∧ w'.cell? ⟨bb, 1, none⟩ = some (.int .i64 b.v) ∧ w'.cell? ⟨bb, 2, none⟩ = some (.int .i64 b.n) ∧ w'.cell? ⟨bb, 3, none⟩ = some (.slice pb b.ps.length cb) ∧ w'.cell? ⟨be, 0, none⟩ = some (.int .i64 x1) ∧ w'.cell? ⟨be, 1, none⟩ = some (.int .i64 x2) ∧ w'.cell? ⟨be, 2, none⟩ = some (.int .i64 x3) ∧ Hid (Below V.heap.size V w')) (by kernel_rfl) sel6 hQ0 plan6 len6 ok6 (HX _ (by repeat (first | exact Below.refl _ _ | refine balloc ?_ _ | refine bdrew ?_ | refine bup ?_ (by assumption)))) ?_
  unfold plan6
  refine seq_take (v := ?v0) ho6_0 (by rfl) ?hv0 ?rest0
  case hv0 => (intro w hSw; obtain ⟨h0, h1, h2, h3, h4, h5, h6, h7, h8, h9, h10, -⟩ := hSw; go_simp; try rfl)
  try simp only [Act.put, List.setIfInBounds_toArray, List.set_cons_zero, List.set_cons_succ]
  refine seq_take (v := ?v1) ho6_1 (by rfl) ?hv1 ?rest1
  case hv1 => (intro w hSw; obtain ⟨h0, h1, h2, h3, h4, h5, h6, h7, h8, h9, h10, -⟩ := hSw; go_simp; try rfl)
  try simp only [Act.put, List.setIfInBounds_toArray, List.set_cons_zero, List.set_cons_succ]
  refine seq_take (v := ?v2) ho6_2 (by rfl) ?hv2 ?rest2
  case hv2 => (intro w hSw; obtain ⟨h0, h1, h2, h3, h4, h5, h6, h7, h8, h9, h10, -⟩ := hSw; go_simp; try rfl)
  try simp only [Act.put, List.setIfInBounds_toArray, List.set_cons_zero, List.set_cons_succ]
  refine seq_run ho6_3 (by rfl) (fun K hK => ?_)
  go_simp
  refine hK.out _ _ (HX _ (by repeat (first | exact Below.refl _ _ | refine balloc ?_ _ | refine bdrew ?_ | refine bup ?_ (by assumption)))) (fun _ => ?_)
  try simp only [Act.put, List.setIfInBounds_toArray, List.set_cons_zero, List.set_cons_succ]
  clear hK K
  refine seq_run ho6_4 (by rfl) (fun K hK => ?_)
  go_simp
  go_at_call 29
  (with_reducible refine (joinK_any _ _ _ _ _).mono ?_)
  rintro e wj ⟨rfl, hbj⟩
  have hv2 := VIn.upd hbj (by first | exact Or.inl rfl | exact Or.inr rfl) (blk3 (k := 2) (HVa _ (by repeat (first | exact Below.refl _ _ | refine balloc ?_ _ | refine bdrew ?_ | refine bup ?_ (by assumption)))) (HVb _ (by repeat (first | exact Below.refl _ _ | refine balloc ?_ _ | refine bdrew ?_ | refine bup ?_ (by assumption)))) (HVa _ (by repeat (first | exact Below.refl _ _ | refine balloc ?_ _ | refine bdrew ?_ | refine bup ?_ (by assumption)))))
  refine hK.out _ _ (HX _ (by repeat (first | exact Below.refl _ _ | refine balloc ?_ _ | refine bdrew ?_ | refine bup ?_ (by assumption)))) (fun _ => ?_)
  try simp only [Act.put, List.setIfInBounds_toArray, List.set_cons_zero, List.set_cons_succ]
  clear hK K
  refine seq_run ho6_5 (by rfl) (fun K hK => ?_)
  go_simp
  go_at_call 28
  (with_reducible refine (not_V (by first | exact HVa _ (by repeat (first | exact Below.refl _ _ | refine balloc ?_ _ | refine bdrew ?_ | refine bup ?_ (by assumption))) | exact HVb _ (by repeat (first | exact Below.refl _ _ | refine balloc ?_ _ | refine bdrew ?_ | refine bup ?_ (by assumption))) | assumption | exact VIn.up (by assumption) (by repeat (first | exact Below.refl _ _ | refine balloc ?_ _ | refine bdrew ?_ | refine bup ?_ (by assumption))))).mono ?_)
  rintro e wn ⟨g, rfl, hvn, hbn⟩
  refine hK.out _ _ (HX _ (by repeat (first | exact Below.refl _ _ | refine balloc ?_ _ | refine bdrew ?_ | refine bup ?_ (by assumption)))) (fun _ => ?_)
  try simp only [Act.put, List.setIfInBounds_toArray, List.set_cons_zero, List.set_cons_succ]
  clear hK K
  refine seq_run ho6_6 (by rfl) (fun K hK => ?_)
  go_simp
  go_at_call 16
  (with_reducible refine (cond_V (by first | exact HVa _ (by repeat (first | exact Below.refl _ _ | refine balloc ?_ _ | refine bdrew ?_ | refine bup ?_ (by assumption))) | exact HVb _ (by repeat (first | exact Below.refl _ _ | refine balloc ?_ _ | refine bdrew ?_ | refine bup ?_ (by assumption))) | assumption | exact VIn.up (by assumption) (by repeat (first | exact Below.refl _ _ | refine balloc ?_ _ | refine bdrew ?_ | refine bup ?_ (by assumption))))).mono ?_)
  rintro e wh ⟨he, hbh⟩
  subst he
  refine hK.out _ _ (HX _ (by repeat (first | exact Below.refl _ _ | refine balloc ?_ _ | refine bdrew ?_ | refine bup ?_ (by assumption)))) (fun _ => ?_)
  try simp only [Act.put, List.setIfInBounds_toArray, List.set_cons_zero, List.set_cons_succ]
  clear hK K
  refine seq_take (v := ?v7) ho6_7 (by rfl) ?hv7 ?rest7
  case hv7 => (intro w _; go_simp; try rfl)
  try simp only [Act.put, List.setIfInBounds_toArray, List.set_cons_zero, List.set_cons_succ]
  refine seq_take (v := ?v8) ho6_8 (by rfl) ?hv8 ?rest8
  case hv8 => (intro w _; go_simp; try rfl)
  try simp only [Act.put, List.setIfInBounds_toArray, List.set_cons_zero, List.set_cons_succ]
  refine seq_skip ho6_9 (by rfl) ?_
  try simp only [Act.put, List.setIfInBounds_toArray, List.set_cons_zero, List.set_cons_succ]
  refine seq_skip ho6_11 (by rfl) ?_
  try simp only [Act.put, List.setIfInBounds_toArray, List.set_cons_zero, List.set_cons_succ]
  refine seq_idle ho6_10 (by rfl) (HX _ (by repeat (first | exact Below.refl _ _ | refine balloc ?_ _ | refine bdrew ?_ | refine bup ?_ (by assumption)))) ?_
  try simp only [Act.put, List.setIfInBounds_toArray, List.set_cons_zero, List.set_cons_succ]
  refine seq_idle ho6_12 (by rfl) (HX _ (by repeat (first | exact Below.refl _ _ | refine balloc ?_ _ | refine bdrew ?_ | refine bup ?_ (by assumption)))) ?_
  try simp only [Act.put, List.setIfInBounds_toArray, List.set_cons_zero, List.set_cons_succ]
  refine seq_idle ho6_13 (by rfl) (HX _ (by repeat (first | exact Below.refl _ _ | refine balloc ?_ _ | refine bdrew ?_ | refine bup ?_ (by assumption)))) ?_
  try simp only [Act.put, List.setIfInBounds_toArray, List.set_cons_zero, List.set_cons_succ]
  refine seq_idle ho6_14 (by rfl) (HX _ (by repeat (first | exact Below.refl _ _ | refine balloc ?_ _ | refine bdrew ?_ | refine bup ?_ (by assumption)))) ?_
  try simp only [Act.put, List.setIfInBounds_toArray, List.set_cons_zero, List.set_cons_succ]
  refine seq_idle ho6_15 (by rfl) (HX _ (by repeat (first | exact Below.refl _ _ | refine balloc ?_ _ | refine bdrew ?_ | refine bup ?_ (by assumption)))) ?_
  try simp only [Act.put, List.setIfInBounds_toArray, List.set_cons_zero, List.set_cons_succ]
  refine seq_skip ho6_16 (by rfl) ?_
  try simp only [Act.put, List.setIfInBounds_toArray, List.set_cons_zero, List.set_cons_succ]
  refine seq_take (v := ?v17) ho6_17 (by rfl) ?hv17 ?rest17
  case hv17 => (intro w _; go_simp; try rfl)
  try simp only [Act.put, List.setIfInBounds_toArray, List.set_cons_zero, List.set_cons_succ]
  refine seq_take (v := ?v18) ho6_18 (by rfl) ?hv18 ?rest18
  case hv18 => (intro w _; go_simp; try rfl)
  try simp only [Act.put, List.setIfInBounds_toArray, List.set_cons_zero, List.set_cons_succ]
  refine seq_skip ho6_19 (by rfl) ?_
  try simp only [Act.put, List.setIfInBounds_toArray, List.set_cons_zero, List.set_cons_succ]
  refine seq_skip ho6_20 (by rfl) ?_
  try simp only [Act.put, List.setIfInBounds_toArray, List.set_cons_zero, List.set_cons_succ]
  refine seq_skip ho6_21 (by rfl) ?_
  try simp only [Act.put, List.setIfInBounds_toArray, List.set_cons_zero, List.set_cons_succ]
  refine seq_idle ho6_22 (by rfl) (HX _ (by repeat (first | exact Below.refl _ _ | refine balloc ?_ _ | refine bdrew ?_ | refine bup ?_ (by assumption)))) ?_
  try simp only [Act.put, List.setIfInBounds_toArray, List.set_cons_zero, List.set_cons_succ]
  refine seq_idle ho6_23 (by rfl) (HX _ (by repeat (first | exact Below.refl _ _ | refine balloc ?_ _ | refine bdrew ?_ | refine bup ?_ (by assumption)))) ?_
  try simp only [Act.put, List.setIfInBounds_toArray, List.set_cons_zero, List.set_cons_succ]
  refine seq_idle ho6_24 (by rfl) (HX _ (by repeat (first | exact Below.refl _ _ | refine balloc ?_ _ | refine bdrew ?_ | refine bup ?_ (by assumption)))) ?_
  try simp only [Act.put, List.setIfInBounds_toArray, List.set_cons_zero, List.set_cons_succ]
  refine seq_skip ho6_25 (by rfl) ?_
  try simp only [Act.put, List.setIfInBounds_toArray, List.set_cons_zero, List.set_cons_succ]
  refine seq_take (v := ?v26) ho6_26 (by rfl) ?hv26 ?rest26
  case hv26 => (intro w _; go_simp; try rfl)
  try simp only [Act.put, List.setIfInBounds_toArray, List.set_cons_zero, List.set_cons_succ]
  refine seq_end ?_
  exact hEnd _ _ _ _ _ _ _ _ _ _ _ _ _ _ _ _ _ _ _ _ _ _ _ _ _ _ _ (by repeat (first | exact Below.refl _ _ | refine balloc ?_ _ | refine bdrew ?_ | refine bup ?_ (by assumption)))
set_option maxHeartbeats 40000000 in
set_option maxRecDepth 100000 in
theorem log6f7 (V : World) (ba bb be : Nat) (a b : Cd) (pa pb : Option Addr) (ca cb : Nat) (x1 x2 x3 : Int) (HX : ∀ w', Below V.heap.size V w' → w'.cell? ⟨ba, 0, none⟩ = some (.int .i64 a.k) ∧ w'.cell? ⟨ba, 1, none⟩ = some (.int .i64 a.v) ∧ w'.cell? ⟨ba, 2, none⟩ = some (.int .i64 a.n) ∧ w'.cell? ⟨ba, 3, none⟩ = some (.slice pa a.ps.length ca) ∧ w'.cell? ⟨bb, 0, none⟩ = some (.int .i64 b.k) ∧ w'.cell? ⟨bb, 1, none⟩ = some (.int .i64 b.v) ∧ w'.cell? ⟨bb, 2, none⟩ = some (.int .i64 b.n) ∧ w'.cell? ⟨bb, 3, none⟩ = some (.slice pb b.ps.length cb) ∧ w'.cell? ⟨be, 0, none⟩ = some (.int .i64 x1) ∧ w'.cell? ⟨be, 1, none⟩ = some (.int .i64 x2) ∧ w'.cell? ⟨be, 2, none⟩ = some (.int .i64 x3) ∧ Hid (Below V.heap.size V w'))
    (HVa : ∀ W, Below V.heap.size V W → VIn W (.agg #[.int .i64 a.k, .int .i64 a.v, .int .i64 a.n, .slice pa a.ps.length ca]) a) (HVb : ∀ W, Below V.heap.size V W → VIn W (.agg #[.int .i64 b.k, .int .i64 b.v, .int .i64 b.n, .slice pb b.ps.length cb]) b) (C0 : condE (notC (joinC 2 [a, b, a])) = 0) (C1 : (condE (joinC 3 [notC a, notC b]) != 0) = true)
    {Q : Exit → Act → World → Prop} (hQ0 : ∀ c a d v w, Q (.panic c) (Act.put a d v) w → Q (.panic c) a w) (w : World) (hbw : Below V.heap.size V w) (u0 u1 u2 u5 u6 u8 u9 u10 u11 u12 u13 u14 u15 u16 u17 u18 u19 u20 u21 u22 u23 u24 u25 u26 u27 u28 u29 u30 u31 u32 u33 u34 u35 u36 u37 u38 u39 u40 u41 u42 u43 u44 u45 u46 u47 u48 u49 u50 u51 u52 u53 u54 u55 u56 u57 u58 u59 u60 u61 u62 u63 u64 u65 u66 u67 u68 u69 u70 u71 u72 u73 u74 u75 u76 u77 u78 u79 u80 u81 u82 u83 u84 u85 u86 u87 u88 u89 u90 u91 u92 u93 u94 u95 u96 u97 u98 u99 u100 u101 u102 u103 u104 u105 u106 u107 u108 u109 u110 u111 u112 u113 u114 u115 u116 u117 u118 u119 u120 u121 u122 u123 u124 u125 u126 u127 u128 u129 u130 u131 u132 u133 u134 u135 u136 u137 u138 u139 u140 u141 u142 u143 u144 u145 u146 u147 u148 u149 u150 u151 u152 : Value)
    (hEnd : ∀ (z32 z33 z34 z35 z36 z37 z38 z39 z40 z41 z42 z43 z44 z45 z46 z47 z48 z49 z50 z51 z52 z53 z54 z55 z56 z57 : Value) (w' : World), Below V.heap.size V w' → Q .normal ⟨#[u0, u1, u2, .pointer (some ⟨ba, 0, none⟩), .pointer (some ⟨bb, 0, none⟩), u5, u6, .pointer (some ⟨be, 0, none⟩), u8, u9, u10, u11, u12, u13, u14, u15, u16, u17, u18, u19, u20, u21, u22, u23, u24, u25, u26, u27, u28, u29, u30, u31, z32, z33, z34, z35, z36, z37, z38, z39, z40, z41, z42, z43, z44, z45, z46, z47, z48, z49, z50, z51, z52, z53, z54, z55, z56, z57, .bool true, u59, u60, u61, u62, u63, u64, u65, u66, u67, u68, u69, u70, u71, u72, u73, u74, u75, u76, u77, u78, u79, u80, u81, u82, u83, u84, u85, u86, u87, u88, u89, u90, u91, u92, u93, u94, u95, u96, u97, u98, u99, u100, u101, u102, u103, u104, u105, u106, u107, u108, u109, u110, u111, u112, u113, u114, u115, u116, u117, u118, u119, u120, u121, u122, u123, u124, u125, u126, u127, u128, u129, u130, u131, u132, u133, u134, u135, u136, u137, u138, u139, u140, u141, u142, u143, u144, u145, u146, u147, u148, u149, u150, u151, u152], []⟩ w') :
    (Code.region 6 ops6 true).wp Tryz.prog Q ⟨#[u0, u1, u2, .pointer (some ⟨ba, 0, none⟩), .pointer (some ⟨bb, 0, none⟩), u5, u6, .pointer (some ⟨be, 0, none⟩), u8, u9, u10, u11, u12, u13, u14, u15, u16, u17, u18, u19, u20, u21, u22, u23, u24, u25, u26, u27, u28, u29, u30, u31, u32, u33, u34, u35, u36, u37, u38, u39, u40, u41, u42, u43, u44, u45, u46, u47, u48, u49, u50, u51, u52, u53, u54, u55, u56, u57, u58, u59, u60, u61, u62, u63, u64, u65, u66, u67, u68, u69, u70, u71, u72, u73, u74, u75, u76, u77, u78, u79, u80, u81, u82, u83, u84, u85, u86, u87, u88, u89, u90, u91, u92, u93, u94, u95, u96, u97, u98, u99, u100, u101, u102, u103, u104, u105, u106, u107, u108, u109, u110, u111, u112, u113, u114, u115, u116, u117, u118, u119, u120, u121, u122, u123, u124, u125, u126, u127, u128, u129, u130, u131, u132, u133, u134, u135, u136, u137, u138, u139, u140, u141, u142, u143, u144, u145, u146, u147, u148, u149, u150, u151, u152], []⟩ w := by
  refine region_plan (S := fun w' => w'.cell? ⟨ba, 0, none⟩ = some (.int .i64 a.k) ∧ w'.cell? ⟨ba, 1, none⟩ = some (.int .i64 a.v) ∧ w'.cell? ⟨ba, 2, none⟩ = some (.int .i64 a.n) ∧ w'.cell? ⟨ba, 3, none⟩ = some (.slice pa a.ps.length ca) ∧ w'.cell? ⟨bb, 0, none⟩ = some (.int .i64 b.k) ∧ w'.cell? ⟨bb, 1, none⟩ = some (.int .i64 b.v) ∧ w'.cell? ⟨bb, 2, none⟩ = some (.int .i64 b.n) ∧ w'.cell? ⟨bb, 3, none⟩ = some (.slice pb b.ps.length cb) ∧ w'.cell? ⟨be, 0, none⟩ = some (.int .i64 x1) ∧ w'.cell? ⟨be, 1, none⟩ = some (.int .i64 x2) ∧ w'.cell? ⟨be, 2, none⟩ = some (.int .i64 x3) ∧ Hid (Below V.heap.size V w')) (by kernel_rfl) sel6 hQ0 plan6 len6 ok6 (HX _ (by repeat (first | exact Below.refl _ _ | refine balloc ?_ _ | refine bdrew ?_ | refine bup ?_ (by assumption)))) ?_
  unfold plan6
  refine seq_take (v := ?v0) ho6_0 (by rfl) ?hv0 ?rest0
  case hv0 => (intro w hSw; obtain ⟨h0, h1, h2, h3, h4, h5, h6, h7, h8, h9, h10, -⟩ := hSw; go_simp; try rfl)
  try simp only [Act.put, List.setIfInBounds_toArray, List.set_cons_zero, List.set_cons_succ]
  refine seq_take (v := ?v1) ho6_1 (by rfl) ?hv1 ?rest1
  case hv1 => (intro w hSw; obtain ⟨h0, h1, h2, h3, h4, h5, h6, h7, h8, h9, h10, -⟩ := hSw; go_simp; try rfl)
  try simp only [Act.put, List.setIfInBounds_toArray, List.set_cons_zero, List.set_cons_succ]
  refine seq_take (v := ?v2) ho6_2 (by rfl) ?hv2 ?rest2
  case hv2 => (intro w hSw; obtain ⟨h0, h1, h2, h3, h4, h5, h6, h7, h8, h9, h10, -⟩ := hSw; go_simp; try rfl)
  try simp only [Act.put, List.setIfInBounds_toArray, List.set_cons_zero, List.set_cons_succ]
  refine seq_run ho6_3 (by rfl) (fun K hK => ?_)
  go_simp
  refine hK.out _ _ (HX _ (by repeat (first | exact Below.refl _ _ | refine balloc ?_ _ | refine bdrew ?_ | refine bup ?_ (by assumption)))) (fun _ => ?_)
  try simp only [Act.put, List.setIfInBounds_toArray, List.set_cons_zero, List.set_cons_succ]
  clear hK K
  refine seq_run ho6_4 (by rfl) (fun K hK => ?_)
  go_simp
  go_at_call 29
  (with_reducible refine (joinK_any _ _ _ _ _).mono ?_)
  rintro e wj ⟨rfl, hbj⟩
  have hv2 := VIn.upd hbj (by first | exact Or.inl rfl | exact Or.inr rfl) (blk3 (k := 2) (HVa _ (by repeat (first | exact Below.refl _ _ | refine balloc ?_ _ | refine bdrew ?_ | refine bup ?_ (by assumption)))) (HVb _ (by repeat (first | exact Below.refl _ _ | refine balloc ?_ _ | refine bdrew ?_ | refine bup ?_ (by assumption)))) (HVa _ (by repeat (first | exact Below.refl _ _ | refine balloc ?_ _ | refine bdrew ?_ | refine bup ?_ (by assumption)))))
  refine hK.out _ _ (HX _ (by repeat (first | exact Below.refl _ _ | refine balloc ?_ _ | refine bdrew ?_ | refine bup ?_ (by assumption)))) (fun _ => ?_)
  try simp only [Act.put, List.setIfInBounds_toArray, List.set_cons_zero, List.set_cons_succ]
  clear hK K
  refine seq_run ho6_5 (by rfl) (fun K hK => ?_)
  go_simp
  go_at_call 28
  (with_reducible refine (not_V (by first | exact HVa _ (by repeat (first | exact Below.refl _ _ | refine balloc ?_ _ | refine bdrew ?_ | refine bup ?_ (by assumption))) | exact HVb _ (by repeat (first | exact Below.refl _ _ | refine balloc ?_ _ | refine bdrew ?_ | refine bup ?_ (by assumption))) | assumption | exact VIn.up (by assumption) (by repeat (first | exact Below.refl _ _ | refine balloc ?_ _ | refine bdrew ?_ | refine bup ?_ (by assumption))))).mono ?_)
  rintro e wn ⟨g, rfl, hvn, hbn⟩
  refine hK.out _ _ (HX _ (by repeat (first | exact Below.refl _ _ | refine balloc ?_ _ | refine bdrew ?_ | refine bup ?_ (by assumption)))) (fun _ => ?_)
  try simp only [Act.put, List.setIfInBounds_toArray, List.set_cons_zero, List.set_cons_succ]
  clear hK K
  refine seq_run ho6_6 (by rfl) (fun K hK => ?_)
  go_simp
  go_at_call 16
  (with_reducible refine (cond_V (by first | exact HVa _ (by repeat (first | exact Below.refl _ _ | refine balloc ?_ _ | refine bdrew ?_ | refine bup ?_ (by assumption))) | exact HVb _ (by repeat (first | exact Below.refl _ _ | refine balloc ?_ _ | refine bdrew ?_ | refine bup ?_ (by assumption))) | assumption | exact VIn.up (by assumption) (by repeat (first | exact Below.refl _ _ | refine balloc ?_ _ | refine bdrew ?_ | refine bup ?_ (by assumption))))).mono ?_)
  rintro e wh ⟨he, hbh⟩
  rw [C0] at he
  subst he
  refine hK.out _ _ (HX _ (by repeat (first | exact Below.refl _ _ | refine balloc ?_ _ | refine bdrew ?_ | refine bup ?_ (by assumption)))) (fun _ => ?_)
  try simp only [Act.put, List.setIfInBounds_toArray, List.set_cons_zero, List.set_cons_succ]
  clear hK K
  refine seq_take (v := ?v7) ho6_7 (by rfl) ?hv7 ?rest7
  case hv7 => (intro w _; go_simp; try rfl)
  try simp only [Act.put, List.setIfInBounds_toArray, List.set_cons_zero, List.set_cons_succ]
  refine seq_take (v := ?v8) ho6_8 (by rfl) ?hv8 ?rest8
  case hv8 => (intro w _; go_simp; try rfl)
  try simp only [Act.put, List.setIfInBounds_toArray, List.set_cons_zero, List.set_cons_succ]
  refine seq_take (v := ?v9) ho6_9 (by rfl) ?hv9 ?rest9
  case hv9 => (intro w hSw; obtain ⟨h0, h1, h2, h3, h4, h5, h6, h7, h8, h9, h10, -⟩ := hSw; go_simp; try rfl)
  try simp only [Act.put, List.setIfInBounds_toArray, List.set_cons_zero, List.set_cons_succ]
  refine seq_take (v := ?v11) ho6_11 (by rfl) ?hv11 ?rest11
  case hv11 => (intro w hSw; obtain ⟨h0, h1, h2, h3, h4, h5, h6, h7, h8, h9, h10, -⟩ := hSw; go_simp; try rfl)
  try simp only [Act.put, List.setIfInBounds_toArray, List.set_cons_zero, List.set_cons_succ]
  refine seq_run ho6_10 (by rfl) (fun K hK => ?_)
  go_simp
  go_at_call 28
  (with_reducible refine (not_V (by first | exact HVa _ (by repeat (first | exact Below.refl _ _ | refine balloc ?_ _ | refine bdrew ?_ | refine bup ?_ (by assumption))) | exact HVb _ (by repeat (first | exact Below.refl _ _ | refine balloc ?_ _ | refine bdrew ?_ | refine bup ?_ (by assumption))) | assumption | exact VIn.up (by assumption) (by repeat (first | exact Below.refl _ _ | refine balloc ?_ _ | refine bdrew ?_ | refine bup ?_ (by assumption))))).mono ?_)
  rintro e wn ⟨g, rfl, hvn, hbn⟩
  refine hK.out _ _ (HX _ (by repeat (first | exact Below.refl _ _ | refine balloc ?_ _ | refine bdrew ?_ | refine bup ?_ (by assumption)))) (fun _ => ?_)
  try simp only [Act.put, List.setIfInBounds_toArray, List.set_cons_zero, List.set_cons_succ]
  clear hK K
  refine seq_run ho6_12 (by rfl) (fun K hK => ?_)
  go_simp
  go_at_call 28
  (with_reducible refine (not_V (by first | exact HVa _ (by repeat (first | exact Below.refl _ _ | refine balloc ?_ _ | refine bdrew ?_ | refine bup ?_ (by assumption))) | exact HVb _ (by repeat (first | exact Below.refl _ _ | refine balloc ?_ _ | refine bdrew ?_ | refine bup ?_ (by assumption))) | assumption | exact VIn.up (by assumption) (by repeat (first | exact Below.refl _ _ | refine balloc ?_ _ | refine bdrew ?_ | refine bup ?_ (by assumption))))).mono ?_)
  rintro e wn ⟨g, rfl, hvn, hbn⟩
  refine hK.out _ _ (HX _ (by repeat (first | exact Below.refl _ _ | refine balloc ?_ _ | refine bdrew ?_ | refine bup ?_ (by assumption)))) (fun _ => ?_)
  try simp only [Act.put, List.setIfInBounds_toArray, List.set_cons_zero, List.set_cons_succ]
  clear hK K
  refine seq_run ho6_13 (by rfl) (fun K hK => ?_)
  go_simp
  refine hK.out _ _ (HX _ (by repeat (first | exact Below.refl _ _ | refine balloc ?_ _ | refine bdrew ?_ | refine bup ?_ (by assumption)))) (fun _ => ?_)
  try simp only [Act.put, List.setIfInBounds_toArray, List.set_cons_zero, List.set_cons_succ]
  clear hK K
  refine seq_run ho6_14 (by rfl) (fun K hK => ?_)
  go_simp
  go_at_call 29
  (with_reducible refine (joinK_any _ _ _ _ _).mono ?_)
  rintro e wj ⟨rfl, hbj⟩
  have hv3 := VIn.upd hbj (by first | exact Or.inl rfl | exact Or.inr rfl) (blk2 (k := 3) (VIn.up (by assumption) (by repeat (first | exact Below.refl _ _ | refine balloc ?_ _ | refine bdrew ?_ | refine bup ?_ (by assumption)))) (VIn.up (by assumption) (by repeat (first | exact Below.refl _ _ | refine balloc ?_ _ | refine bdrew ?_ | refine bup ?_ (by assumption)))))
  refine hK.out _ _ (HX _ (by repeat (first | exact Below.refl _ _ | refine balloc ?_ _ | refine bdrew ?_ | refine bup ?_ (by assumption)))) (fun _ => ?_)
  try simp only [Act.put, List.setIfInBounds_toArray, List.set_cons_zero, List.set_cons_succ]
  clear hK K
  refine seq_run ho6_15 (by rfl) (fun K hK => ?_)
  go_simp
  go_at_call 16
  (with_reducible refine (cond_V (by first | exact HVa _ (by repeat (first | exact Below.refl _ _ | refine balloc ?_ _ | refine bdrew ?_ | refine bup ?_ (by assumption))) | exact HVb _ (by repeat (first | exact Below.refl _ _ | refine balloc ?_ _ | refine bdrew ?_ | refine bup ?_ (by assumption))) | assumption | exact VIn.up (by assumption) (by repeat (first | exact Below.refl _ _ | refine balloc ?_ _ | refine bdrew ?_ | refine bup ?_ (by assumption))))).mono ?_)
  rintro e wh ⟨he, hbh⟩
  subst he
  refine hK.out _ _ (HX _ (by repeat (first | exact Below.refl _ _ | refine balloc ?_ _ | refine bdrew ?_ | refine bup ?_ (by assumption)))) (fun _ => ?_)
  try simp only [Act.put, List.setIfInBounds_toArray, List.set_cons_zero, List.set_cons_succ]
  clear hK K
  refine seq_take (v := ?v16) ho6_16 (by rfl) ?hv16 ?rest16
  case hv16 => (intro w _; go_simp; try rfl)
  try simp only [Act.put, List.setIfInBounds_toArray, List.set_cons_zero, List.set_cons_succ]
  refine seq_take (v := ?v17) ho6_17 (by rfl) ?hv17 ?rest17
  case hv17 => (intro w _; go_simp; try rfl)
  try simp only [Act.put, List.setIfInBounds_toArray, List.set_cons_zero, List.set_cons_succ]
  refine seq_take (v := ?v18) ho6_18 (by rfl) ?hv18 ?rest18
  case hv18 => (intro w _; go_simp; try rfl)
  try simp only [Act.put, List.setIfInBounds_toArray, List.set_cons_zero, List.set_cons_succ]
  refine seq_skip ho6_19 (by rfl) ?_
  try simp only [Act.put, List.setIfInBounds_toArray, List.set_cons_zero, List.set_cons_succ]
  refine seq_skip ho6_20 (by rfl) ?_
  try simp only [Act.put, List.setIfInBounds_toArray, List.set_cons_zero, List.set_cons_succ]
  refine seq_skip ho6_21 (by rfl) ?_
  try simp only [Act.put, List.setIfInBounds_toArray, List.set_cons_zero, List.set_cons_succ]
  refine seq_idle ho6_22 (by rfl) (HX _ (by repeat (first | exact Below.refl _ _ | refine balloc ?_ _ | refine bdrew ?_ | refine bup ?_ (by assumption)))) ?_
  try simp only [Act.put, List.setIfInBounds_toArray, List.set_cons_zero, List.set_cons_succ]
  refine seq_idle ho6_23 (by rfl) (HX _ (by repeat (first | exact Below.refl _ _ | refine balloc ?_ _ | refine bdrew ?_ | refine bup ?_ (by assumption)))) ?_
  try simp only [Act.put, List.setIfInBounds_toArray, List.set_cons_zero, List.set_cons_succ]
  refine seq_idle ho6_24 (by rfl) (HX _ (by repeat (first | exact Below.refl _ _ | refine balloc ?_ _ | refine bdrew ?_ | refine bup ?_ (by assumption)))) ?_
  try simp only [Act.put, List.setIfInBounds_toArray, List.set_cons_zero, List.set_cons_succ]
  refine seq_skip ho6_25 (by rfl) ?_
  try simp only [Act.put, List.setIfInBounds_toArray, List.set_cons_zero, List.set_cons_succ]
  refine seq_take (v := ?v26) ho6_26 (by rfl) ?hv26 ?rest26
  case hv26 => (intro w _; go_simp; try rfl)
  try simp only [Act.put, List.setIfInBounds_toArray, List.set_cons_zero, List.set_cons_succ]
  refine seq_end ?_
  exact hEnd _ _ _ _ _ _ _ _ _ _ _ _ _ _ _ _ _ _ _ _ _ _ _ _ _ _ _ (by repeat (first | exact Below.refl _ _ | refine balloc ?_ _ | refine bdrew ?_ | refine bup ?_ (by assumption)))
set_option maxHeartbeats 40000000 in
set_option maxRecDepth 100000 in
theorem log6f8 (V : World) (ba bb be : Nat) (a b : Cd) (pa pb : Option Addr) (ca cb : Nat) (x1 x2 x3 : Int) (HX : ∀ w', Below V.heap.size V w' → w'.cell? ⟨ba, 0, none⟩ = some (.int .i64 a.k) ∧ w'.cell? ⟨ba, 1, none⟩ = some (.int .i64 a.v) ∧ w'.cell? ⟨ba, 2, none⟩ = some (.int .i64 a.n) ∧ w'.cell? ⟨ba, 3, none⟩ = some (.slice pa a.ps.length ca) ∧ w'.cell? ⟨bb, 0, none⟩ = some (.int .i64 b.k) ∧ w'.cell? ⟨bb, 1, none⟩ = some (.int .i64 b.v) ∧ w'.cell? ⟨bb, 2, none⟩ = some (.int .i64 b.n) ∧ w'.cell? ⟨bb, 3, none⟩ = some (.slice pb b.ps.length cb) ∧ w'.cell? ⟨be, 0, none⟩ = some (.int .i64 x1) ∧ w'.cell? ⟨be, 1, none⟩ = some (.int .i64 x2) ∧ w'.cell? ⟨be, 2, none⟩ = some (.int .i64 x3) ∧ Hid (Below V.heap.size V w'))
    (HVa : ∀ W, Below V.heap.size V W → VIn W (.agg #[.int .i64 a.k, .int .i64 a.v, .int .i64 a.n, .slice pa a.ps.length ca]) a) (HVb : ∀ W, Below V.heap.size V W → VIn W (.agg #[.int .i64 b.k, .int .i64 b.v, .int .i64 b.n, .slice pb b.ps.length cb]) b) (C0 : condE (notC (joinC 2 [a, b, a])) = 0) (C1 : condE (joinC 3 [notC a, notC b]) = 0) (C2 : (condE (joinC 2 [b, a, b]) != 0) = true)
    {Q : Exit → Act → World → Prop} (hQ0 : ∀ c a d v w, Q (.panic c) (Act.put a d v) w → Q (.panic c) a w) (w : World) (hbw : Below V.heap.size V w) (u0 u1 u2 u5 u6 u8 u9 u10 u11 u12 u13 u14 u15 u16 u17 u18 u19 u20 u21 u22 u23 u24 u25 u26 u27 u28 u29 u30 u31 u32 u33 u34 u35 u36 u37 u38 u39 u40 u41 u42 u43 u44 u45 u46 u47 u48 u49 u50 u51 u52 u53 u54 u55 u56 u57 u58 u59 u60 u61 u62 u63 u64 u65 u66 u67 u68 u69 u70 u71 u72 u73 u74 u75 u76 u77 u78 u79 u80 u81 u82 u83 u84 u85 u86 u87 u88 u89 u90 u91 u92 u93 u94 u95 u96 u97 u98 u99 u100 u101 u102 u103 u104 u105 u106 u107 u108 u109 u110 u111 u112 u113 u114 u115 u116 u117 u118 u119 u120 u121 u122 u123 u124 u125 u126 u127 u128 u129 u130 u131 u132 u133 u134 u135 u136 u137 u138 u139 u140 u141 u142 u143 u144 u145 u146 u147 u148 u149 u150 u151 u152 : Value)
    (hEnd : ∀ (z32 z33 z34 z35 z36 z37 z38 z39 z40 z41 z42 z43 z44 z45 z46 z47 z48 z49 z50 z51 z52 z53 z54 z55 z56 z57 : Value) (w' : World), Below V.heap.size V w' → Q .normal ⟨#[u0, u1, u2, .pointer (some ⟨ba, 0, none⟩), .pointer (some ⟨bb, 0, none⟩), u5, u6, .pointer (some ⟨be, 0, none⟩), u8, u9, u10, u11, u12, u13, u14, u15, u16, u17, u18, u19, u20, u21, u22, u23, u24, u25, u26, u27, u28, u29, u30, u31, z32, z33, z34, z35, z36, z37, z38, z39, z40, z41, z42, z43, z44, z45, z46, z47, z48, z49, z50, z51, z52, z53, z54, z55, z56, z57, .bool true, u59, u60, u61, u62, u63, u64, u65, u66, u67, u68, u69, u70, u71, u72, u73, u74, u75, u76, u77, u78, u79, u80, u81, u82, u83, u84, u85, u86, u87, u88, u89, u90, u91, u92, u93, u94, u95, u96, u97, u98, u99, u100, u101, u102, u103, u104, u105, u106, u107, u108, u109, u110, u111, u112, u113, u114, u115, u116, u117, u118, u119, u120, u121, u122, u123, u124, u125, u126, u127, u128, u129, u130, u131, u132, u133, u134, u135, u136, u137, u138, u139, u140, u141, u142, u143, u144, u145, u146, u147, u148, u149, u150, u151, u152], []⟩ w') :
    (Code.region 6 ops6 true).wp Tryz.prog Q ⟨#[u0, u1, u2, .pointer (some ⟨ba, 0, none⟩), .pointer (some ⟨bb, 0, none⟩), u5, u6, .pointer (some ⟨be, 0, none⟩), u8, u9, u10, u11, u12, u13, u14, u15, u16, u17, u18, u19, u20, u21, u22, u23, u24, u25, u26, u27, u28, u29, u30, u31, u32, u33, u34, u35, u36, u37, u38, u39, u40, u41, u42, u43, u44, u45, u46, u47, u48, u49, u50, u51, u52, u53, u54, u55, u56, u57, u58, u59, u60, u61, u62, u63, u64, u65, u66, u67, u68, u69, u70, u71, u72, u73, u74, u75, u76, u77, u78, u79, u80, u81, u82, u83, u84, u85, u86, u87, u88, u89, u90, u91, u92, u93, u94, u95, u96, u97, u98, u99, u100, u101, u102, u103, u104, u105, u106, u107, u108, u109, u110, u111, u112, u113, u114, u115, u116, u117, u118, u119, u120, u121, u122, u123, u124, u125, u126, u127, u128, u129, u130, u131, u132, u133, u134, u135, u136, u137, u138, u139, u140, u141, u142, u143, u144, u145, u146, u147, u148, u149, u150, u151, u152], []⟩ w := by
  refine region_plan (S := fun w' => w'.cell? ⟨ba, 0, none⟩ = some (.int .i64 a.k) ∧ w'.cell? ⟨ba, 1, none⟩ = some (.int .i64 a.v) ∧ w'.cell? ⟨ba, 2, none⟩ = some (.int .i64 a.n) ∧ w'.cell? ⟨ba, 3, none⟩ = some (.slice pa a.ps.length ca) ∧ w'.cell? ⟨bb, 0, none⟩ = some (.int .i64 b.k) ∧ w'.cell? ⟨bb, 1, none⟩ = some (.int .i64 b.v) ∧ w'.cell? ⟨bb, 2, none⟩ = some (.int .i64 b.n) ∧ w'.cell? ⟨bb, 3, none⟩ = some (.slice pb b.ps.length cb) ∧ w'.cell? ⟨be, 0, none⟩ = some (.int .i64 x1) ∧ w'.cell? ⟨be, 1, none⟩ = some (.int .i64 x2) ∧ w'.cell? ⟨be, 2, none⟩ = some (.int .i64 x3) ∧ Hid (Below V.heap.size V w')) (by kernel_rfl) sel6 hQ0 plan6 len6 ok6 (HX _ (by repeat (first | exact Below.refl _ _ | refine balloc ?_ _ | refine bdrew ?_ | refine bup ?_ (by assumption)))) ?_
  unfold plan6
  refine seq_take (v := ?v0) ho6_0 (by rfl) ?hv0 ?rest0
  case hv0 => (intro w hSw; obtain ⟨h0, h1, h2, h3, h4, h5, h6, h7, h8, h9, h10, -⟩ := hSw; go_simp; try rfl)
  try simp only [Act.put, List.setIfInBounds_toArray, List.set_cons_zero, List.set_cons_succ]
  refine seq_take (v := ?v1) ho6_1 (by rfl) ?hv1 ?rest1
  case hv1 => (intro w hSw; obtain ⟨h0, h1, h2, h3, h4, h5, h6, h7, h8, h9, h10, -⟩ := hSw; go_simp; try rfl)
  try simp only [Act.put, List.setIfInBounds_toArray, List.set_cons_zero, List.set_cons_succ]
  refine seq_take (v := ?v2) ho6_2 (by rfl) ?hv2 ?rest2
  case hv2 => (intro w hSw; obtain ⟨h0, h1, h2, h3, h4, h5, h6, h7, h8, h9, h10, -⟩ := hSw; go_simp; try rfl)
  try simp only [Act.put, List.setIfInBounds_toArray, List.set_cons_zero, List.set_cons_succ]
  refine seq_run ho6_3 (by rfl) (fun K hK => ?_)
  go_simp
  refine hK.out _ _ (HX _ (by repeat (first | exact Below.refl _ _ | refine balloc ?_ _ | refine bdrew ?_ | refine bup ?_ (by assumption)))) (fun _ => ?_)
  try simp only [Act.put, List.setIfInBounds_toArray, List.set_cons_zero, List.set_cons_succ]
  clear hK K
  refine seq_run ho6_4 (by rfl) (fun K hK => ?_)
  go_simp
  go_at_call 29
  (with_reducible refine (joinK_any _ _ _ _ _).mono ?_)
  rintro e wj ⟨rfl, hbj⟩
  have hv2 := VIn.upd hbj (by first | exact Or.inl rfl | exact Or.inr rfl) (blk3 (k := 2) (HVa _ (by repeat (first | exact Below.refl _ _ | refine balloc ?_ _ | refine bdrew ?_ | refine bup ?_ (by assumption)))) (HVb _ (by repeat (first | exact Below.refl _ _ | refine balloc ?_ _ | refine bdrew ?_ | refine bup ?_ (by assumption)))) (HVa _ (by repeat (first | exact Below.refl _ _ | refine balloc ?_ _ | refine bdrew ?_ | refine bup ?_ (by assumption)))))
  refine hK.out _ _ (HX _ (by repeat (first | exact Below.refl _ _ | refine balloc ?_ _ | refine bdrew ?_ | refine bup ?_ (by assumption)))) (fun _ => ?_)
  try simp only [Act.put, List.setIfInBounds_toArray, List.set_cons_zero, List.set_cons_succ]
  clear hK K
  refine seq_run ho6_5 (by rfl) (fun K hK => ?_)
  go_simp
  go_at_call 28
  (with_reducible refine (not_V (by first | exact HVa _ (by repeat (first | exact Below.refl _ _ | refine balloc ?_ _ | refine bdrew ?_ | refine bup ?_ (by assumption))) | exact HVb _ (by repeat (first | exact Below.refl _ _ | refine balloc ?_ _ | refine bdrew ?_ | refine bup ?_ (by assumption))) | assumption | exact VIn.up (by assumption) (by repeat (first | exact Below.refl _ _ | refine balloc ?_ _ | refine bdrew ?_ | refine bup ?_ (by assumption))))).mono ?_)
  rintro e wn ⟨g, rfl, hvn, hbn⟩
  refine hK.out _ _ (HX _ (by repeat (first | exact Below.refl _ _ | refine balloc ?_ _ | refine bdrew ?_ | refine bup ?_ (by assumption)))) (fun _ => ?_)
  try simp only [Act.put, List.setIfInBounds_toArray, List.set_cons_zero, List.set_cons_succ]
  clear hK K
  refine seq_run ho6_6 (by rfl) (fun K hK => ?_)
  go_simp
  go_at_call 16
  (with_reducible refine (cond_V (by first | exact HVa _ (by repeat (first | exact Below.refl _ _ | refine balloc ?_ _ | refine bdrew ?_ | refine bup ?_ (by assumption))) | exact HVb _ (by repeat (first | exact Below.refl _ _ | refine balloc ?_ _ | refine bdrew ?_ | refine bup ?_ (by assumption))) | assumption | exact VIn.up (by assumption) (by repeat (first | exact Below.refl _ _ | refine balloc ?_ _ | refine bdrew ?_ | refine bup ?_ (by assumption))))).mono ?_)
  rintro e wh ⟨he, hbh⟩
  rw [C0] at he
  subst he
  refine hK.out _ _ (HX _ (by repeat (first | exact Below.refl _ _ | refine balloc ?_ _ | refine bdrew ?_ | refine bup ?_ (by assumption)))) (fun _ => ?_)
  try simp only [Act.put, List.setIfInBounds_toArray, List.set_cons_zero, List.set_cons_succ]
  clear hK K
  refine seq_take (v := ?v7) ho6_7 (by rfl) ?hv7 ?rest7
  case hv7 => (intro w _; go_simp; try rfl)
  try simp only [Act.put, List.setIfInBounds_toArray, List.set_cons_zero, List.set_cons_succ]
  refine seq_take (v := ?v8) ho6_8 (by rfl) ?hv8 ?rest8
  case hv8 => (intro w _; go_simp; try rfl)
  try simp only [Act.put, List.setIfInBounds_toArray, List.set_cons_zero, List.set_cons_succ]
  refine seq_take (v := ?v9) ho6_9 (by rfl) ?hv9 ?rest9
  case hv9 => (intro w hSw; obtain ⟨h0, h1, h2, h3, h4, h5, h6, h7, h8, h9, h10, -⟩ := hSw; go_simp; try rfl)
  try simp only [Act.put, List.setIfInBounds_toArray, List.set_cons_zero, List.set_cons_succ]
  refine seq_take (v := ?v11) ho6_11 (by rfl) ?hv11 ?rest11
  case hv11 => (intro w hSw; obtain ⟨h0, h1, h2, h3, h4, h5, h6, h7, h8, h9, h10, -⟩ := hSw; go_simp; try rfl)
  try simp only [Act.put, List.setIfInBounds_toArray, List.set_cons_zero, List.set_cons_succ]
  refine seq_run ho6_10 (by rfl) (fun K hK => ?_)
  go_simp
  go_at_call 28
  (with_reducible refine (not_V (by first | exact HVa _ (by repeat (first | exact Below.refl _ _ | refine balloc ?_ _ | refine bdrew ?_ | refine bup ?_ (by assumption))) | exact HVb _ (by repeat (first | exact Below.refl _ _ | refine balloc ?_ _ | refine bdrew ?_ | refine bup ?_ (by assumption))) | assumption | exact VIn.up (by assumption) (by repeat (first | exact Below.refl _ _ | refine balloc ?_ _ | refine bdrew ?_ | refine bup ?_ (by assumption))))).mono ?_)
  rintro e wn ⟨g, rfl, hvn, hbn⟩
  refine hK.out _ _ (HX _ (by repeat (first | exact Below.refl _ _ | refine balloc ?_ _ | refine bdrew ?_ | refine bup ?_ (by assumption)))) (fun _ => ?_)
  try simp only [Act.put, List.setIfInBounds_toArray, List.set_cons_zero, List.set_cons_succ]
  clear hK K
  refine seq_run ho6_12 (by rfl) (fun K hK => ?_)
  go_simp
  go_at_call 28
  (with_reducible refine (not_V (by first | exact HVa _ (by repeat (first | exact Below.refl _ _ | refine balloc ?_ _ | refine bdrew ?_ | refine bup ?_ (by assumption))) | exact HVb _ (by repeat (first | exact Below.refl _ _ | refine balloc ?_ _ | refine bdrew ?_ | refine bup ?_ (by assumption))) | assumption | exact VIn.up (by assumption) (by repeat (first | exact Below.refl _ _ | refine balloc ?_ _ | refine bdrew ?_ | refine bup ?_ (by assumption))))).mono ?_)
  rintro e wn ⟨g, rfl, hvn, hbn⟩
  refine hK.out _ _ (HX _ (by repeat (first | exact Below.refl _ _ | refine balloc ?_ _ | refine bdrew ?_ | refine bup ?_ (by assumption)))) (fun _ => ?_)
  try simp only [Act.put, List.setIfInBounds_toArray, List.set_cons_zero, List.set_cons_succ]
  clear hK K
  refine seq_run ho6_13 (by rfl) (fun K hK => ?_)
  go_simp
  refine hK.out _ _ (HX _ (by repeat (first | exact Below.refl _ _ | refine balloc ?_ _ | refine bdrew ?_ | refine bup ?_ (by assumption)))) (fun _ => ?_)
  try simp only [Act.put, List.setIfInBounds_toArray, List.set_cons_zero, List.set_cons_succ]
  clear hK K
  refine seq_run ho6_14 (by rfl) (fun K hK => ?_)
  go_simp
  go_at_call 29
  (with_reducible refine (joinK_any _ _ _ _ _).mono ?_)
  rintro e wj ⟨rfl, hbj⟩
  have hv3 := VIn.upd hbj (by first | exact Or.inl rfl | exact Or.inr rfl) (blk2 (k := 3) (VIn.up (by assumption) (by repeat (first | exact Below.refl _ _ | refine balloc ?_ _ | refine bdrew ?_ | refine bup ?_ (by assumption)))) (VIn.up (by assumption) (by repeat (first | exact Below.refl _ _ | refine balloc ?_ _ | refine bdrew ?_ | refine bup ?_ (by assumption)))))
  refine hK.out _ _ (HX _ (by repeat (first | exact Below.refl _ _ | refine balloc ?_ _ | refine bdrew ?_ | refine bup ?_ (by assumption)))) (fun _ => ?_)
  try simp only [Act.put, List.setIfInBounds_toArray, List.set_cons_zero, List.set_cons_succ]
  clear hK K
  refine seq_run ho6_15 (by rfl) (fun K hK => ?_)
  go_simp
  go_at_call 16
  (with_reducible refine (cond_V (by first | exact HVa _ (by repeat (first | exact Below.refl _ _ | refine balloc ?_ _ | refine bdrew ?_ | refine bup ?_ (by assumption))) | exact HVb _ (by repeat (first | exact Below.refl _ _ | refine balloc ?_ _ | refine bdrew ?_ | refine bup ?_ (by assumption))) | assumption | exact VIn.up (by assumption) (by repeat (first | exact Below.refl _ _ | refine balloc ?_ _ | refine bdrew ?_ | refine bup ?_ (by assumption))))).mono ?_)
  rintro e wh ⟨he, hbh⟩
  rw [C1] at he
  subst he
  refine hK.out _ _ (HX _ (by repeat (first | exact Below.refl _ _ | refine balloc ?_ _ | refine bdrew ?_ | refine bup ?_ (by assumption)))) (fun _ => ?_)
  try simp only [Act.put, List.setIfInBounds_toArray, List.set_cons_zero, List.set_cons_succ]
  clear hK K
  refine seq_take (v := ?v16) ho6_16 (by rfl) ?hv16 ?rest16
  case hv16 => (intro w _; go_simp; try rfl)
  try simp only [Act.put, List.setIfInBounds_toArray, List.set_cons_zero, List.set_cons_succ]
  refine seq_take (v := ?v17) ho6_17 (by rfl) ?hv17 ?rest17
  case hv17 => (intro w _; go_simp; try rfl)
  try simp only [Act.put, List.setIfInBounds_toArray, List.set_cons_zero, List.set_cons_succ]
  refine seq_take (v := ?v18) ho6_18 (by rfl) ?hv18 ?rest18
  case hv18 => (intro w _; go_simp; try rfl)
  try simp only [Act.put, List.setIfInBounds_toArray, List.set_cons_zero, List.set_cons_succ]
  refine seq_take (v := ?v19) ho6_19 (by rfl) ?hv19 ?rest19
  case hv19 => (intro w hSw; obtain ⟨h0, h1, h2, h3, h4, h5, h6, h7, h8, h9, h10, -⟩ := hSw; go_simp; try rfl)
  try simp only [Act.put, List.setIfInBounds_toArray, List.set_cons_zero, List.set_cons_succ]
  refine seq_take (v := ?v20) ho6_20 (by rfl) ?hv20 ?rest20
  case hv20 => (intro w hSw; obtain ⟨h0, h1, h2, h3, h4, h5, h6, h7, h8, h9, h10, -⟩ := hSw; go_simp; try rfl)
  try simp only [Act.put, List.setIfInBounds_toArray, List.set_cons_zero, List.set_cons_succ]
  refine seq_take (v := ?v21) ho6_21 (by rfl) ?hv21 ?rest21
  case hv21 => (intro w hSw; obtain ⟨h0, h1, h2, h3, h4, h5, h6, h7, h8, h9, h10, -⟩ := hSw; go_simp; try rfl)
  try simp only [Act.put, List.setIfInBounds_toArray, List.set_cons_zero, List.set_cons_succ]
  refine seq_run ho6_22 (by rfl) (fun K hK => ?_)
  go_simp
  refine hK.out _ _ (HX _ (by repeat (first | exact Below.refl _ _ | refine balloc ?_ _ | refine bdrew ?_ | refine bup ?_ (by assumption)))) (fun _ => ?_)
  try simp only [Act.put, List.setIfInBounds_toArray, List.set_cons_zero, List.set_cons_succ]
  clear hK K
  refine seq_run ho6_23 (by rfl) (fun K hK => ?_)
  go_simp
  go_at_call 29
  (with_reducible refine (joinK_any _ _ _ _ _).mono ?_)
  rintro e wj ⟨rfl, hbj⟩
  have hv2 := VIn.upd hbj (by first | exact Or.inl rfl | exact Or.inr rfl) (blk3 (k := 2) (HVb _ (by repeat (first | exact Below.refl _ _ | refine balloc ?_ _ | refine bdrew ?_ | refine bup ?_ (by assumption)))) (HVa _ (by repeat (first | exact Below.refl _ _ | refine balloc ?_ _ | refine bdrew ?_ | refine bup ?_ (by assumption)))) (HVb _ (by repeat (first | exact Below.refl _ _ | refine balloc ?_ _ | refine bdrew ?_ | refine bup ?_ (by assumption)))))
  refine hK.out _ _ (HX _ (by repeat (first | exact Below.refl _ _ | refine balloc ?_ _ | refine bdrew ?_ | refine bup ?_ (by assumption)))) (fun _ => ?_)
  try simp only [Act.put, List.setIfInBounds_toArray, List.set_cons_zero, List.set_cons_succ]
  clear hK K
  refine seq_run ho6_24 (by rfl) (fun K hK => ?_)
  go_simp
  go_at_call 16
  (with_reducible refine (cond_V (by first | exact HVa _ (by repeat (first | exact Below.refl _ _ | refine balloc ?_ _ | refine bdrew ?_ | refine bup ?_ (by assumption))) | exact HVb _ (by repeat (first | exact Below.refl _ _ | refine balloc ?_ _ | refine bdrew ?_ | refine bup ?_ (by assumption))) | assumption | exact VIn.up (by assumption) (by repeat (first | exact Below.refl _ _ | refine balloc ?_ _ | refine bdrew ?_ | refine bup ?_ (by assumption))))).mono ?_)
  rintro e wh ⟨he, hbh⟩
  subst he
  refine hK.out _ _ (HX _ (by repeat (first | exact Below.refl _ _ | refine balloc ?_ _ | refine bdrew ?_ | refine bup ?_ (by assumption)))) (fun _ => ?_)
  try simp only [Act.put, List.setIfInBounds_toArray, List.set_cons_zero, List.set_cons_succ]
  clear hK K
  refine seq_take (v := ?v25) ho6_25 (by rfl) ?hv25 ?rest25
  case hv25 => (intro w _; go_simp; try rfl)
  try simp only [Act.put, List.setIfInBounds_toArray, List.set_cons_zero, List.set_cons_succ]
  refine seq_take (v := ?v26) ho6_26 (by rfl) ?hv26 ?rest26
  case hv26 => (intro w _; go_simp; try rfl)
  try simp only [Act.put, List.setIfInBounds_toArray, List.set_cons_zero, List.set_cons_succ]
  refine seq_end ?_
  exact hEnd _ _ _ _ _ _ _ _ _ _ _ _ _ _ _ _ _ _ _ _ _ _ _ _ _ _ _ (by repeat (first | exact Below.refl _ _ | refine balloc ?_ _ | refine bdrew ?_ | refine bup ?_ (by assumption)))
end Go.Proofs.YtabdgnigmlpeaaaGreatDoor
/- The law: TypingLogic. -/
namespace Go.Proofs.YtabdgnigmlpeaaaGreatDoor
open Go.RowKit

set_option maxHeartbeats 40000000 in
set_option maxRecDepth 100000 in
theorem logic_any {w : World} {Q1 Q2 : Nat → Prop} {a : Cd} {pa : Option Addr} {ca : Nat} (h1 : CdIn w Q1 a pa ca) {b : Cd} {pb : Option Addr} {cb : Nat} (h2 : CdIn w Q2 b pb cb) (n : Int) :
    Calls Tryz.prog 6 #[cV a pa ca, cV b pb cb, .int .i64 n] w fun e w' => e = .returned (.bool true) ∧ Below w.heap.size w w' := by
  have hA := balloc (balloc (Below.refl w.heap.size w) (.cells #[.int .i64 a.k, .int .i64 a.v, .int .i64 a.n, .slice pa a.ps.length ca] 40)) (.cells #[.int .i64 b.k, .int .i64 b.v, .int .i64 b.n, .slice pb b.ps.length cb] 40)
  have HA := Lib.hid hA
  have HX : Hid (∀ A, A = (w.alloc (.cells #[.int .i64 a.k, .int .i64 a.v, .int .i64 a.n, .slice pa a.ps.length ca] 40)).alloc (.cells #[.int .i64 b.k, .int .i64 b.v, .int .i64 b.n, .slice pb b.ps.length cb] 40) → ∀ w', Below A.heap.size A w' → w'.cell? ⟨w.heap.size, 0, none⟩ = some (.int .i64 a.k) ∧ w'.cell? ⟨w.heap.size, 1, none⟩ = some (.int .i64 a.v) ∧ w'.cell? ⟨w.heap.size, 2, none⟩ = some (.int .i64 a.n) ∧ w'.cell? ⟨w.heap.size, 3, none⟩ = some (.slice pa a.ps.length ca) ∧
      w'.cell? ⟨w.heap.size + 1, 0, none⟩ = some (.int .i64 b.k) ∧ w'.cell? ⟨w.heap.size + 1, 1, none⟩ = some (.int .i64 b.v) ∧ w'.cell? ⟨w.heap.size + 1, 2, none⟩ = some (.int .i64 b.n) ∧ w'.cell? ⟨w.heap.size + 1, 3, none⟩ = some (.slice pb b.ps.length cb)) := Lib.hid fun A e w' hb => by
    subst e
    exact ⟨keepc hb (by simp [go_sem]), keepc hb (by simp [go_sem]), keepc hb (by simp [go_sem]), keepc hb (by simp [go_sem]), keepc hb (by simp [go_sem]), keepc hb (by simp [go_sem]), keepc hb (by simp [go_sem]), keepc hb (by simp [go_sem])⟩
  have HVa : Hid (∀ W, Below w.heap.size w W → VIn W (.agg #[.int .i64 a.k, .int .i64 a.v, .int .i64 a.n, .slice pa a.ps.length ca]) a) := Lib.hid fun W hb => ⟨pa, ca, rfl, (h1.bel hb).mono fun _ _ => trivial⟩
  have HVb : Hid (∀ W, Below w.heap.size w W → VIn W (.agg #[.int .i64 b.k, .int .i64 b.v, .int .i64 b.n, .slice pb b.ps.length cb]) b) := Lib.hid fun W hb => ⟨pb, cb, rfl, (h2.bel hb).mono fun _ _ => trivial⟩
  have KFa : Hid (∀ W, Below w.heap.size w W → Calls Tryz.prog 14 #[.agg #[.int .i64 a.k, .int .i64 a.v, .int .i64 a.n, .slice pa a.ps.length ca]] W fun e w' => e = .returned (.bool (fewC a)) ∧ Below W.heap.size W w') := Lib.hid fun W hb => fewCond_any (h1.bel hb)
  have KFb : Hid (∀ W, Below w.heap.size w W → Calls Tryz.prog 14 #[.agg #[.int .i64 b.k, .int .i64 b.v, .int .i64 b.n, .slice pb b.ps.length cb]] W fun e w' => e = .returned (.bool (fewC b)) ∧ Below W.heap.size W w') := Lib.hid fun W hb => fewCond_any (h2.bel hb)
  have KE : Hid (∀ W, Calls Tryz.prog 27 #[.int .i64 n] W fun e w' => e = .returned (envV (envL n)) ∧ Below W.heap.size W w') := Lib.hid fun W => envOf_any n W
  have hx := envL_ok n
  generalize envL n = x at *
  have HEq := Lib.hid (logic_eqs a b x hx)
  clear hA hx h1 h2
  generalize fewC a = f1 at *
  generalize fewC b = f2 at *
  obtain ⟨x1, x2, x3⟩ := x
  unfold cV
  unfold envV at KE
  go_enter Tryz.func6, Tryz.ntmps6
  go_wp2_with fail
  go_at_call 10
  generalize hAe : (w.alloc (.cells #[.int .i64 a.k, .int .i64 a.v, .int .i64 a.n, .slice pa a.ps.length ca] 40)).alloc (.cells #[.int .i64 b.k, .int .i64 b.v, .int .i64 b.n, .slice pb b.ps.length cb] 40) = A at *
  refine (sane_any A).mono ?_
  rintro e w1 ⟨rfl, hb1⟩
  have HX1 := Lib.hid (HX.out A rfl)
  clear HX hAe
  have HB1 := Lib.hid (bup HA.out hb1)
  obtain ⟨y0, y1, y2, y3, y4, y5, y6, y7⟩ := HX1.out w1 hb1
  cases f1 with
  | false =>
    go_wp2_with (go_at_call 14; (with_reducible refine (KFa.out _ HB1.out).mono ?_); rintro e w2 ⟨rfl, hb2⟩)
    go_ret
    exact ⟨rfl, bup HB1.out hb2⟩
  | true =>
    cases f2 with
    | false =>
      go_wp2_with (first
        | (go_at_call 14; (with_reducible refine (KFa.out _ HB1.out).mono ?_); rintro e w2 ⟨rfl, hb2⟩; have HB2 := Lib.hid (bup HB1.out hb2); obtain ⟨y0', y1', y2', y3', y4', y5', y6', y7'⟩ := HX1.out w2 (bup hb1 hb2))
        | (go_at_call 14; (with_reducible refine (KFb.out _ HB2.out).mono ?_); rintro e w3 ⟨rfl, hb3⟩))
      go_ret
      exact ⟨rfl, bup HB2.out hb3⟩
    | true =>
      by_cases hea : condE a = 0
      · by_cases heb : condE b = 0
        · go_upto_region 6 with (first
            | (go_at_call 14; (with_reducible refine (KFa.out _ HB1.out).mono ?_); rintro e w2 ⟨rfl, hb2⟩; have HB2 := Lib.hid (bup HB1.out hb2); obtain ⟨y0', y1', y2', y3', y4', y5', y6', y7'⟩ := HX1.out w2 (bup hb1 hb2))
            | (go_at_call 14; (with_reducible refine (KFb.out _ HB2.out).mono ?_); rintro e w3 ⟨rfl, hb3⟩; have HB3 := Lib.hid (bup HB2.out hb3); have HC3 := Lib.hid (bup (bup hb1 hb2) hb3); obtain ⟨z0, z1, z2, z3, z4, z5, z6, z7⟩ := HX1.out w3 HC3.out)
            | (go_at_call 16; (with_reducible refine (cond_V (HVa.out _ HB3.out)).mono ?_); rintro e w4 ⟨he, hb4⟩; rw [hea] at he; subst he; have HB4 := Lib.hid (bup HB3.out hb4); have HC4 := Lib.hid (bup HC3.out hb4); obtain ⟨z0', z1', z2', z3', z4', z5', z6', z7'⟩ := HX1.out w4 HC4.out)
            | (go_at_call 16; (with_reducible refine (cond_V (HVb.out _ HB4.out)).mono ?_); rintro e w5 ⟨he, hb5⟩; rw [heb] at he; subst he; have HB5 := Lib.hid (bup HB4.out hb5); have HC5 := Lib.hid (bup HC4.out hb5))
            | (go_at_call 27; (with_reducible refine (KE.out _).mono ?_); rintro e w6 ⟨rfl, hb6⟩))
          have HB6 := Lib.hid (balloc (bup HB5.out hb6) (.cells #[.int .i64 x1, .int .i64 x2, .int .i64 x3] 42))
          have HC6 := Lib.hid (balloc (bup HC5.out hb6) (.cells #[.int .i64 x1, .int .i64 x2, .int .i64 x3] 42))
          have HX6 : Hid (∀ V, V = w6.alloc (.cells #[.int .i64 x1, .int .i64 x2, .int .i64 x3] 42) → ∀ w', Below V.heap.size V w' → w'.cell? ⟨w.heap.size, 0, none⟩ = some (.int .i64 a.k) ∧ w'.cell? ⟨w.heap.size, 1, none⟩ = some (.int .i64 a.v) ∧ w'.cell? ⟨w.heap.size, 2, none⟩ = some (.int .i64 a.n) ∧ w'.cell? ⟨w.heap.size, 3, none⟩ = some (.slice pa a.ps.length ca) ∧ w'.cell? ⟨w.heap.size + 1, 0, none⟩ = some (.int .i64 b.k) ∧ w'.cell? ⟨w.heap.size + 1, 1, none⟩ = some (.int .i64 b.v) ∧ w'.cell? ⟨w.heap.size + 1, 2, none⟩ = some (.int .i64 b.n) ∧ w'.cell? ⟨w.heap.size + 1, 3, none⟩ = some (.slice pb b.ps.length cb) ∧ w'.cell? ⟨w6.heap.size, 0, none⟩ = some (.int .i64 x1) ∧ w'.cell? ⟨w6.heap.size, 1, none⟩ = some (.int .i64 x2) ∧ w'.cell? ⟨w6.heap.size, 2, none⟩ = some (.int .i64 x3) ∧ Hid (Below V.heap.size V w')) := Lib.hid fun V e w' hb => by
            subst e
            obtain ⟨u0, u1, u2, u3, u4, u5, u6, u7⟩ := HX1.out w' (bup HC6.out hb)
            exact ⟨u0, u1, u2, u3, u4, u5, u6, u7, keepc hb (by simp [go_sem]), keepc hb (by simp [go_sem]), keepc hb (by simp [go_sem]), Lib.hid hb⟩
          generalize hVe : w6.alloc (.cells #[.int .i64 x1, .int .i64 x2, .int .i64 x3] 42) = V at *
          have HX7 := Lib.hid (HX6.out V rfl)
          have HVa' : Hid (∀ W, Below V.heap.size V W → VIn W (.agg #[.int .i64 a.k, .int .i64 a.v, .int .i64 a.n, .slice pa a.ps.length ca]) a) := Lib.hid fun W hb => HVa.out W (bup HB6.out hb)
          have HVb' : Hid (∀ W, Below V.heap.size V W → VIn W (.agg #[.int .i64 b.k, .int .i64 b.v, .int .i64 b.n, .slice pb b.ps.length cb]) b) := Lib.hid fun W hb => HVb.out W (bup HB6.out hb)
          clear HX6 hVe HX1 HVa HVb KFa KFb KE HA HB1 HB2 HB3 HB4 HB5 HC3 HC4 HC5 HC6 y0 y1 y2 y3 y4 y5 y6 y7 y0' y1' y2' y3' y4' y5' y6' y7' z0 z1 z2 z3 z4 z5 z6 z7 z0' z1' z2' z3' z4' z5' z6' z7' hb1 hb2 hb3 hb4 hb5 hb6
          by_cases he6 : condE (notC (joinC 2 [a, b, a])) = 0
          · by_cases he7 : condE (joinC 3 [notC a, notC b]) = 0
            · by_cases he8 : condE (joinC 2 [b, a, b]) = 0
              · obtain ⟨E1, E2, E3, E4, E5, E6, E7, E8⟩ := HEq.out hea heb he6 he7 he8
                clear HEq hea heb
                refine log6ok V w.heap.size (w.heap.size + 1) w6.heap.size a b pa pb ca cb x1 x2 x3 HX7.out HVa'.out HVb'.out he6 he7 he8 (fun c a d v w h => by cases d <;> exact h) V (Below.refl _ _) _ _ _ _ _ _ _ _ _ _ _ _ _ _ _ _ _ _ _ _ _ _ _ _ _ _ _ _ _ _ _ _ _ _ _ _ _ _ _ _ _ _ _ _ _ _ _ _ _ _ _ _ _ _ _ _ _ _ _ _ _ _ _ _ _ _ _ _ _ _ _ _ _ _ _ _ _ _ _ _ _ _ _ _ _ _ _ _ _ _ _ _ _ _ _ _ _ _ _ _ _ _ _ _ _ _ _ _ _ _ _ _ _ _ _ _ _ _ _ _ _ _ _ _ _ _ _ _ _ _ _ _ _ _ _ _ _ _ _ _ _ _ _ _ _ _ _ _ _ _ ?_
                intro z32 z33 z34 z35 z36 z37 z38 z39 z40 z41 z42 z43 z44 z45 z46 z47 z48 z49 z50 z51 z52 z53 z54 z55 z56 z57 w7 hb7
                go_wp2_with fail
                go_region_held3 (fun w' => w'.cell? ⟨w.heap.size, 0, none⟩ = some (.int .i64 a.k) ∧ w'.cell? ⟨w.heap.size, 1, none⟩ = some (.int .i64 a.v) ∧ w'.cell? ⟨w.heap.size, 2, none⟩ = some (.int .i64 a.n) ∧ w'.cell? ⟨w.heap.size, 3, none⟩ = some (.slice pa a.ps.length ca) ∧ w'.cell? ⟨w.heap.size + 1, 0, none⟩ = some (.int .i64 b.k) ∧ w'.cell? ⟨w.heap.size + 1, 1, none⟩ = some (.int .i64 b.v) ∧ w'.cell? ⟨w.heap.size + 1, 2, none⟩ = some (.int .i64 b.n) ∧ w'.cell? ⟨w.heap.size + 1, 3, none⟩ = some (.slice pb b.ps.length cb) ∧ w'.cell? ⟨w6.heap.size, 0, none⟩ = some (.int .i64 x1) ∧ w'.cell? ⟨w6.heap.size, 1, none⟩ = some (.int .i64 x2) ∧ w'.cell? ⟨w6.heap.size, 2, none⟩ = some (.int .i64 x3) ∧ Hid (Below V.heap.size V w'))
                  (first | exact HX7.out _ (by repeat (first | exact Below.refl _ _ | refine balloc ?_ _ | refine bdrew ?_ | refine bup ?_ (by assumption))) | assumption)
                  (first
                    | (go_at_call 30; (with_reducible refine (holds_W (by first | exact HVa'.out _ (by repeat (first | exact Below.refl _ _ | refine balloc ?_ _ | refine bdrew ?_ | refine bup ?_ (by assumption))) | exact HVb'.out _ (by repeat (first | exact Below.refl _ _ | refine balloc ?_ _ | refine bdrew ?_ | refine bup ?_ (by assumption))) | assumption | exact VIn.up (by assumption) (by repeat (first | exact Below.refl _ _ | refine balloc ?_ _ | refine bdrew ?_ | refine bup ?_ (by assumption)))) x1 x2 x3).mono ?_); rintro e wh ⟨he, hbh⟩; subst he))
                go_wp2_with fail
                generalize hqq : holdB b ⟨x1, x2, x3⟩ = q at *
                cases hp : holdB a ⟨x1, x2, x3⟩ with
                | true =>
                  rw [hp] at E1 E2 E3 E4 E5 E6 E7 E8
                  refine log9tq V w.heap.size (w.heap.size + 1) w6.heap.size a b pa pb ca cb x1 x2 x3 q HX7.out HVa'.out HVb'.out (by simpa using E1) (by simpa using E2) (by simpa using E3) (by simpa using E4) (by simpa using E5) (by simpa using E6) (by simpa using E7) (by simpa using E8) (fun c a d v w h => by cases d <;> exact h) _ (by repeat (first | exact Below.refl _ _ | refine balloc ?_ _ | refine bdrew ?_ | refine bup ?_ (by assumption))) _ _ _ _ _ _ _ _ _ _ _ _ _ _ _ _ _ _ _ _ _ _ _ _ _ _ _ _ _ _ _ _ _ _ _ _ _ _ _ _ _ _ _ _ _ _ _ _ _ _ _ _ _ _ _ _ _ _ _ _ _ _ _ _ _ _ _ _ _ _ _ _ _ _ _ _ _ _ _ _ _ _ _ _ _ _ _ _ _ _ _ _ _ _ _ _ _ _ _ _ _ _ _ _ _ _ _ _ _ _ _ _ _ _ _ _ _ _ _ _ _ _ _ _ _ _ _ _ _ _ _ _ _ _ _ _ _ _ _ _ _ _ _ _ _ _ _ _ ?_
                  intro y65 y66 y67 y68 y69 y70 y71 y72 y73 y74 y75 y76 y77 y78 y79 y80 y81 y82 y83 y84 y85 y86 y87 y88 y89 y90 y91 y92 y93 y94 y95 y96 y97 y98 y99 y100 y101 y102 y103 y104 y105 y106 y107 y108 y109 y110 y111 y112 y113 y114 y115 y116 y117 y118 y119 y120 y121 y122 y123 y124 y125 y126 y127 y128 y129 y130 y131 y132 y133 y134 y135 y136 y137 y138 y139 y140 y141 y142 y143 y144 y145 y146 y147 y148 y149 y150 y151 y152 w9 hb9
                  go_wp2_with fail
                  go_ret
                  exact ⟨rfl, bup HB6.out hb9⟩
                | false =>
                  rw [hp] at E1 E2 E3 E4 E5 E6 E7 E8
                  refine log9fq V w.heap.size (w.heap.size + 1) w6.heap.size a b pa pb ca cb x1 x2 x3 q HX7.out HVa'.out HVb'.out (by simpa using E1) (by simpa using E2) (by simpa using E3) (by simpa using E4) (by simpa using E5) (by simpa using E6) (by simpa using E7) (by simpa using E8) (fun c a d v w h => by cases d <;> exact h) _ (by repeat (first | exact Below.refl _ _ | refine balloc ?_ _ | refine bdrew ?_ | refine bup ?_ (by assumption))) _ _ _ _ _ _ _ _ _ _ _ _ _ _ _ _ _ _ _ _ _ _ _ _ _ _ _ _ _ _ _ _ _ _ _ _ _ _ _ _ _ _ _ _ _ _ _ _ _ _ _ _ _ _ _ _ _ _ _ _ _ _ _ _ _ _ _ _ _ _ _ _ _ _ _ _ _ _ _ _ _ _ _ _ _ _ _ _ _ _ _ _ _ _ _ _ _ _ _ _ _ _ _ _ _ _ _ _ _ _ _ _ _ _ _ _ _ _ _ _ _ _ _ _ _ _ _ _ _ _ _ _ _ _ _ _ _ _ _ _ _ _ _ _ _ _ _ _ ?_
                  intro y65 y66 y67 y68 y69 y70 y71 y72 y73 y74 y75 y76 y77 y78 y79 y80 y81 y82 y83 y84 y85 y86 y87 y88 y89 y90 y91 y92 y93 y94 y95 y96 y97 y98 y99 y100 y101 y102 y103 y104 y105 y106 y107 y108 y109 y110 y111 y112 y113 y114 y115 y116 y117 y118 y119 y120 y121 y122 y123 y124 y125 y126 y127 y128 y129 y130 y131 y132 y133 y134 y135 y136 y137 y138 y139 y140 y141 y142 y143 y144 y145 y146 y147 y148 y149 y150 y151 y152 w9 hb9
                  go_wp2_with fail
                  go_ret
                  exact ⟨rfl, bup HB6.out hb9⟩
              · have b8 : (condE (joinC 2 [b, a, b]) != 0) = true := by simpa using he8
                clear HEq hea heb he8
                refine log6f8 V w.heap.size (w.heap.size + 1) w6.heap.size a b pa pb ca cb x1 x2 x3 HX7.out HVa'.out HVb'.out he6 he7 b8 (fun c a d v w h => by cases d <;> exact h) V (Below.refl _ _) _ _ _ _ _ _ _ _ _ _ _ _ _ _ _ _ _ _ _ _ _ _ _ _ _ _ _ _ _ _ _ _ _ _ _ _ _ _ _ _ _ _ _ _ _ _ _ _ _ _ _ _ _ _ _ _ _ _ _ _ _ _ _ _ _ _ _ _ _ _ _ _ _ _ _ _ _ _ _ _ _ _ _ _ _ _ _ _ _ _ _ _ _ _ _ _ _ _ _ _ _ _ _ _ _ _ _ _ _ _ _ _ _ _ _ _ _ _ _ _ _ _ _ _ _ _ _ _ _ _ _ _ _ _ _ _ _ _ _ _ _ _ _ _ _ _ _ _ _ _ ?_
                intro z32 z33 z34 z35 z36 z37 z38 z39 z40 z41 z42 z43 z44 z45 z46 z47 z48 z49 z50 z51 z52 z53 z54 z55 z56 z57 w7 hb7
                go_wp2_with fail
                go_ret
                exact ⟨rfl, bup HB6.out hb7⟩
            · have b7 : (condE (joinC 3 [notC a, notC b]) != 0) = true := by simpa using he7
              clear HEq hea heb he7
              refine log6f7 V w.heap.size (w.heap.size + 1) w6.heap.size a b pa pb ca cb x1 x2 x3 HX7.out HVa'.out HVb'.out he6 b7 (fun c a d v w h => by cases d <;> exact h) V (Below.refl _ _) _ _ _ _ _ _ _ _ _ _ _ _ _ _ _ _ _ _ _ _ _ _ _ _ _ _ _ _ _ _ _ _ _ _ _ _ _ _ _ _ _ _ _ _ _ _ _ _ _ _ _ _ _ _ _ _ _ _ _ _ _ _ _ _ _ _ _ _ _ _ _ _ _ _ _ _ _ _ _ _ _ _ _ _ _ _ _ _ _ _ _ _ _ _ _ _ _ _ _ _ _ _ _ _ _ _ _ _ _ _ _ _ _ _ _ _ _ _ _ _ _ _ _ _ _ _ _ _ _ _ _ _ _ _ _ _ _ _ _ _ _ _ _ _ _ _ _ _ _ _ ?_
              intro z32 z33 z34 z35 z36 z37 z38 z39 z40 z41 z42 z43 z44 z45 z46 z47 z48 z49 z50 z51 z52 z53 z54 z55 z56 z57 w7 hb7
              go_wp2_with fail
              go_ret
              exact ⟨rfl, bup HB6.out hb7⟩
          · have b6 : (condE (notC (joinC 2 [a, b, a])) != 0) = true := by simpa using he6
            clear HEq hea heb he6
            refine log6f6 V w.heap.size (w.heap.size + 1) w6.heap.size a b pa pb ca cb x1 x2 x3 HX7.out HVa'.out HVb'.out b6 (fun c a d v w h => by cases d <;> exact h) V (Below.refl _ _) _ _ _ _ _ _ _ _ _ _ _ _ _ _ _ _ _ _ _ _ _ _ _ _ _ _ _ _ _ _ _ _ _ _ _ _ _ _ _ _ _ _ _ _ _ _ _ _ _ _ _ _ _ _ _ _ _ _ _ _ _ _ _ _ _ _ _ _ _ _ _ _ _ _ _ _ _ _ _ _ _ _ _ _ _ _ _ _ _ _ _ _ _ _ _ _ _ _ _ _ _ _ _ _ _ _ _ _ _ _ _ _ _ _ _ _ _ _ _ _ _ _ _ _ _ _ _ _ _ _ _ _ _ _ _ _ _ _ _ _ _ _ _ _ _ _ _ _ _ _ ?_
            intro z32 z33 z34 z35 z36 z37 z38 z39 z40 z41 z42 z43 z44 z45 z46 z47 z48 z49 z50 z51 z52 z53 z54 z55 z56 z57 w7 hb7
            go_wp2_with fail
            go_ret
            exact ⟨rfl, bup HB6.out hb7⟩
        · have b1 : (condE b != 0) = true := by simpa using heb
          go_wp2_with (first
            | (go_at_call 14; (with_reducible refine (KFa.out _ HB1.out).mono ?_); rintro e w2 ⟨rfl, hb2⟩; have HB2 := Lib.hid (bup HB1.out hb2); obtain ⟨y0', y1', y2', y3', y4', y5', y6', y7'⟩ := HX1.out w2 (bup hb1 hb2))
            | (go_at_call 14; (with_reducible refine (KFb.out _ HB2.out).mono ?_); rintro e w3 ⟨rfl, hb3⟩; have HB3 := Lib.hid (bup HB2.out hb3); have HC3 := Lib.hid (bup (bup hb1 hb2) hb3); obtain ⟨z0, z1, z2, z3, z4, z5, z6, z7⟩ := HX1.out w3 HC3.out)
            | (go_at_call 16; (with_reducible refine (cond_V (HVa.out _ HB3.out)).mono ?_); rintro e w4 ⟨he, hb4⟩; rw [hea] at he; subst he; have HB4 := Lib.hid (bup HB3.out hb4); have HC4 := Lib.hid (bup HC3.out hb4); obtain ⟨z0', z1', z2', z3', z4', z5', z6', z7'⟩ := HX1.out w4 HC4.out)
            | (go_at_call 16; (with_reducible refine (cond_V (HVb.out _ HB4.out)).mono ?_); rintro e w5 ⟨rfl, hb5⟩; have HB5 := Lib.hid (bup HB4.out hb5)))
          go_ret
          exact ⟨rfl, HB5.out⟩
      · have b1 : (condE a != 0) = true := by simpa using hea
        go_wp2_with (first
          | (go_at_call 14; (with_reducible refine (KFa.out _ HB1.out).mono ?_); rintro e w2 ⟨rfl, hb2⟩; have HB2 := Lib.hid (bup HB1.out hb2); obtain ⟨y0', y1', y2', y3', y4', y5', y6', y7'⟩ := HX1.out w2 (bup hb1 hb2))
          | (go_at_call 14; (with_reducible refine (KFb.out _ HB2.out).mono ?_); rintro e w3 ⟨rfl, hb3⟩; have HB3 := Lib.hid (bup HB2.out hb3); have HC3 := Lib.hid (bup (bup hb1 hb2) hb3); obtain ⟨z0, z1, z2, z3, z4, z5, z6, z7⟩ := HX1.out w3 HC3.out)
          | (go_at_call 16; (with_reducible refine (cond_V (HVa.out _ HB3.out)).mono ?_); rintro e w4 ⟨rfl, hb4⟩; have HB4 := Lib.hid (bup HB3.out hb4)))
        go_ret
        exact ⟨rfl, HB4.out⟩
end Go.Proofs.YtabdgnigmlpeaaaGreatDoor
