/- SpanSums: the sum of the turned list, region 29 of the law. -/
import Derived.Test.YtdennlekjndfkaaSumsA
namespace Go.Proofs.Ytdennlekjndfkaa.spanSums
open Go.ChangeShapes Go.WideShapes Go.ChangeAt Go.RowKit

/-- The region of that number in a function's code. -/
def findR (n : Nat) : Code → Option Code
  | .region k ops d => if k = n then some (.region k ops d) else none
  | .seq c e => match findR n c with
    | some r => some r
    | none => findR n e
  | .cond _ c e => match findR n c with
    | some r => some r
    | none => findR n e
  | .block _ c => findR n c
  | .loop c => findR n c
  | .scope c => findR n c
  | _ => none
noncomputable def reg29 : Code := (Try.f7.body.bind (findR 29)).getD .skip

set_option maxRecDepth 100000 in
set_option maxHeartbeats 20000000 in
theorem reg29_any (wr : World) (ba oa c1 : Nat) (a : List Sp) (q : Option Addr) (c2 : Nat) (b : List Sp) (k : Nat) (X : List Sp) (hka : k < a.length) (hfa : a.length ≤ 24) (hfb : b.length ≤ 24) (hac : a.length ≤ c1) (hac2 : c1 ≤ 9223372036854775807) (HAr : Hid (SpAt wr 0 (some ⟨ba, oa, none⟩) a)) (HBr : Hid (SpAt wr 0 q b)) (hba2 : ba < wr.heap.size)
    (x : Sp) (hx : a[k] = x) (x1 : wr.cell? ⟨ba, oa + k * 2, none⟩ = some (.int .i64 x.1)) (x2 : wr.cell? ⟨ba, oa + k * 2 + 1, none⟩ = some (.int .i64 x.2)) (HTUR : Hid (errLL (turned a k x) b = 0 ∧ addS (turned a k x) b = X ∧ addE (turned a k x) b = 0))
    {Q : Exit → Act → World → Prop} (u2 u3 u4 u5 u6 u7 u8 u9 u10 u11 u12 u13 u14 u15 u16 u17 u18 u19 u23 u24 u25 u26 u27 u28 u29 u30 u31 u32 u33 u34 u35 u36 u37 u38 u39 u40 u41 u42 u43 u44 u45 u46 u47 u48 u49 u50 u51 u52 u53 u54 u55 u56 u57 u58 u59 u60 u61 u62 u63 u64 u65 u66 u67 u68 u69 u70 u71 u72 u73 u74 u75 u76 u77 u78 u79 u80 u81 u82 u83 u84 u85 u86 u87 u88 u89 u90 u91 u92 u93 u94 u95 u96 u97 u98 u99 u100 u101 u102 u103 u104 u105 u106 u107 u108 u109 u110 u111 u112 u113 u114 u115 u116 u117 u118 u119 u120 u121 u122 u123 u124 u125 u126 u127 u128 u129 u130 u131 u132 u133 u134 u135 u136 u137 u138 u139 u140 u141 u142 u143 u144 u145 u146 u147 u148 u149 u150 u151 u152 u153 u174 u175 u176 u177 u178 u179 u180 y21 y22 y154 y155 y156 y157 y158 y159 y160 y161 y162 y163 y164 y165 y166 y167 y168 y169 y170 y171 y172 y173 : Value)
    (hQ : ∀ (pz : Option Addr) (cz : Nat) (w' : World) (z154 z155 z156 z157 z158 z159 z160 z161 z162 z163 z164 z165 z166 z167 z168 z169 z170 z171 z172 z173 : Value), Hid (SpAt w' 0 pz X) → Hid (Below wr.heap.size wr w') → Q .normal ⟨#[.slice (some ⟨ba, oa, none⟩) a.length c1, .slice q b.length c2, u2, u3, u4, u5, u6, u7, u8, u9, u10, u11, u12, u13, u14, u15, u16, u17, u18, u19, .int .i64 (k : Int), .slice pz X.length cz, .int .i64 0, u23, u24, u25, u26, u27, u28, u29, u30, u31, u32, u33, u34, u35, u36, u37, u38, u39, u40, u41, u42, u43, u44, u45, u46, u47, u48, u49, u50, u51, u52, u53, u54, u55, u56, u57, u58, u59, u60, u61, u62, u63, u64, u65, u66, u67, u68, u69, u70, u71, u72, u73, u74, u75, u76, u77, u78, u79, u80, u81, u82, u83, u84, u85, u86, u87, u88, u89, u90, u91, u92, u93, u94, u95, u96, u97, u98, u99, u100, u101, u102, u103, u104, u105, u106, u107, u108, u109, u110, u111, u112, u113, u114, u115, u116, u117, u118, u119, u120, u121, u122, u123, u124, u125, u126, u127, u128, u129, u130, u131, u132, u133, u134, u135, u136, u137, u138, u139, u140, u141, u142, u143, u144, u145, u146, u147, u148, u149, u150, u151, u152, u153, z154, z155, z156, z157, z158, z159, z160, z161, z162, z163, z164, z165, z166, z167, z168, z169, z170, z171, z172, z173, u174, u175, u176, u177, u178, u179, u180], []⟩ w') :
    Code.wp Try.prog reg29 Q ⟨#[.slice (some ⟨ba, oa, none⟩) a.length c1, .slice q b.length c2, u2, u3, u4, u5, u6, u7, u8, u9, u10, u11, u12, u13, u14, u15, u16, u17, u18, u19, .int .i64 (k : Int), y21, y22, u23, u24, u25, u26, u27, u28, u29, u30, u31, u32, u33, u34, u35, u36, u37, u38, u39, u40, u41, u42, u43, u44, u45, u46, u47, u48, u49, u50, u51, u52, u53, u54, u55, u56, u57, u58, u59, u60, u61, u62, u63, u64, u65, u66, u67, u68, u69, u70, u71, u72, u73, u74, u75, u76, u77, u78, u79, u80, u81, u82, u83, u84, u85, u86, u87, u88, u89, u90, u91, u92, u93, u94, u95, u96, u97, u98, u99, u100, u101, u102, u103, u104, u105, u106, u107, u108, u109, u110, u111, u112, u113, u114, u115, u116, u117, u118, u119, u120, u121, u122, u123, u124, u125, u126, u127, u128, u129, u130, u131, u132, u133, u134, u135, u136, u137, u138, u139, u140, u141, u142, u143, u144, u145, u146, u147, u148, u149, u150, u151, u152, u153, y154, y155, y156, y157, y158, y159, y160, y161, y162, y163, y164, y165, y166, y167, y168, y169, y170, y171, y172, y173, u174, u175, u176, u177, u178, u179, u180], []⟩ wr := by
  have hxa : x ∈ a := hx ▸ List.getElem_mem hka
  have HTL := Lib.hid (turned_len a k x)
  have HFX : Hid (FitSp x) := Lib.hid (HAr.out.fit _ hxa)
  have HBE := Lib.hid (Below.refl wr.heap.size wr)
  have HFT : Hid (∀ s ∈ turned a k x, FitSp s) := fun s hs => by
    unfold turned at hs
    rcases List.mem_append.1 hs with hs | hs
    · rcases List.mem_append.1 hs with hs | hs
      · exact HAr.out.fit s (List.mem_of_mem_drop hs)
      · exact HAr.out.fit s (List.mem_of_mem_take hs)
    · rw [List.mem_singleton.1 hs]; exact HFX.out
  have wk1 : (k : Int) < (a.length : Int) := by omega
  have wk2 : (0 : Int) ≤ (k : Int) := by omega
  have wk3 : (k : Int) ≤ (c1 : Int) := by omega
  have wk4 : (a.length : Int) ≤ (c1 : Int) := by omega
  have wk5 : (k : Int) ≤ (a.length : Int) := by omega
  have wk6 : ¬ c1 = k := by omega
  have wk7 : ¬ k = c1 := by omega
  have htk : (a.take k).length = k := by rw [List.length_take]; omega
  have hdl : (a.drop k).length = a.length - k := List.length_drop
  have hdp : 0 < a.length - k := by omega
  have hdm : a.length - k ≤ 1000 := by omega
  have hdk : (a.drop k).length + k ≤ 1000 := by rw [hdl]; omega
  have hdx : (a.drop k ++ a.take k).length + 1 ≤ 1000 := by rw [List.length_append, hdl, htk]; omega
  have hk1 : k ≤ 1000 := by omega
  clear hx hxa
  have O0 : Own (wr.alloc (.cells #[] 23)).drew wr.heap.size (.slice (some ⟨wr.heap.size, 0, none⟩) 0 0) [] := (Own.made _ _ _ rfl (Nat.le_refl _)).below (Below.refl _ _).drew (Nat.le_refl _)
  have O1 : Own ((wr.alloc (.cells #[] 23)).alloc (.cells #[.int .i64 x.1, .int .i64 x.2] 23)).drew wr.heap.size (.slice (some ⟨wr.heap.size, 0, none⟩) 0 0) [] := ((Own.made _ _ _ rfl (Nat.le_refl _)).alloc _).below (Below.refl _ _).drew (Nat.le_refl _)
  have O2 : Own ((wr.alloc (.cells #[.int .i64 x.1, .int .i64 x.2] 23)).alloc (.cells #[] 23)).drew (wr.heap.size + 1) (.slice (some ⟨wr.heap.size + 1, 0, none⟩) 0 0) [] := by
    have := (Own.made (wr.alloc (.cells #[.int .i64 x.1, .int .i64 x.2] 23)) (wr.heap.size + 1) (wr.heap.size + 1) (by simp) (by simp)).below (Below.refl _ _).drew (Nat.le_refl _)
    exact this
  conv => arg 2; whnf
  dsimp only
  go_region_held3 (fun w' => w'.cell? ⟨ba, oa + k * 2, none⟩ = some (.int .i64 x.1) ∧ w'.cell? ⟨ba, oa + k * 2 + 1, none⟩ = some (.int .i64 x.2) ∧ Hid (Below wr.heap.size wr w'))
    (first
      | with_reducible exact keepX hba2 x1 x2 HBE.out.drew
      | with_reducible exact keepX hba2 x1 x2 (HBE.out.alloc (Nat.le_refl _) _).drew
      | with_reducible exact keepX hba2 x1 x2 ((HBE.out.alloc (Nat.le_refl _) _).alloc (le_al _ _) _).drew
      | with_reducible exact keepX hba2 x1 x2 hW9
      | with_reducible exact keepX hba2 x1 x2 hW7
      | with_reducible exact keepX hba2 x1 x2 hW6
      | with_reducible exact keepX hba2 x1 x2 hW5
      | with_reducible exact keepX hba2 x1 x2 (hW6.alloc hW6.size _)
      | with_reducible exact keepX hba2 x1 x2 (hW5.alloc hW5.size _)
      | assumption)
    (first
      | (refine step_first rfl _ _ rfl _ (by first | with_reducible exact O0 | with_reducible exact O1 | with_reducible exact O2) rfl 0 _ _ _ (a.drop k) rfl (SpAt_drop (HAr.out.below (heldX (wr := wr) (by assumption))) k) hdl hdp hdm ?_; intro v5 w5 hownA hbA; have hW5 : Below wr.heap.size wr w5 := up5 (heldX (wr := wr) (by assumption)) hbA)
      | (refine step_app rfl _ _ rfl _ v5 (a.drop k) rfl (by first | with_reducible exact hownA | with_reducible exact hownA.alloc _) _ _ _ (a.take k) rfl (news (SpAt_take (HAr.out.below (heldX (wr := wr) (by assumption))) k)) htk hdk (by first | with_reducible exact hbA.size | with_reducible exact Nat.le_trans hbA.size (le_al _ _)) ?_; intro v6 w6 hownB hgB hbB; have hW6 : Below wr.heap.size wr w6 := by first | exact up6 hW5 hbA hbB | exact up6' hW5 hbA hbB)
      | (refine step_app rfl _ _ rfl _ v6 (a.drop k ++ a.take k) rfl (by first | with_reducible exact hownB | with_reducible exact hownB.alloc _) _ _ _ [x] rfl (Bx.news (by first
            | with_reducible exact Bx.new w6 x
            | with_reducible exact Bx.w5 hownA hgB
            | with_reducible exact Bx.A hownA hbA hgB
            | with_reducible exact Bx.D hownA hbA hgB)) rfl hdx (by first | with_reducible exact Nat.le_trans hbA.size hbB.size | with_reducible exact Nat.le_trans hbA.size (Nat.le_trans hbB.size (le_al _ _)) | with_reducible exact Nat.le_trans hbA.size (Nat.le_trans (le_al _ _) hbB.size)) ?_
         intro v7 w7 hownC hgC hbC; have hW7 : Below wr.heap.size wr w7 := by first | exact up7 hW6 hbA hbC | exact up7' hW6 hbA hbC
         have hownD : Own w7 _ v7 (turned a k x) := hownC
         obtain ⟨pz, cz, rfl, hsz, _⟩ := hownD.reads HFT.out (by have := HTL.out; omega)
         have HSZ := Lib.hid hsz
         clear hsz)
      | (go_at_call 24; (with_reducible refine (add_any24 pz q cz c2 (turned a k x) b _ _ _ HSZ.out (HBr.out.below hW7) (by have := HTL.out; omega) (by omega)).mono ?_); rw [HTUR.out.2.1, HTUR.out.2.2]; rintro e w9 ⟨py9, cy9, rfl, hs9, _, hbD⟩; have hW9 : Below wr.heap.size wr w9 := hW7.trans (hbD.mono hW7.size)))
  all_goals exact hQ _ _ _ _ _ _ _ _ _ _ _ _ _ _ _ _ _ _ _ _ _ _ _ (Lib.hid (hs9.mono (Nat.zero_le _))) (Lib.hid hW9)
end Go.Proofs.Ytdennlekjndfkaa.spanSums
