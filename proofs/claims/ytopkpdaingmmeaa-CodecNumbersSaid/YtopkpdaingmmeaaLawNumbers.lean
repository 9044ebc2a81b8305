/- CodecNumbers: the law returns true for all arguments, without any condition. -/
import Derived.Test.YtopkpdaingmmeaaRows
import Derived.WalkKit
import Derived.ProofKit
import Derived.OpenShut
import Derived.Test.YtopkpdaingmmeaaVMono
import Derived.Deep.Light
namespace Go.Proofs.Ytopkpdaingmmeaa.codecNumbers
open Go.ChangeShapes Go.WideShapes Go.ChangeAt Go.RowKit
set_option linter.unusedVariables false      -- a walk need not use every 'w<i>' (that an integer argument fits its kind)

theorem own : ownKnob Try.prog.godebug = none := by kernel_rfl

set_option maxRecDepth 100000 in
set_option maxHeartbeats 8000000 in
theorem walk (a0 : Int) (a1 : Int) (w0 : (Lit.int .i64 a0).wf = true) (w1 : (Lit.int .i64 a1).wf = true) (w : World) :
    Calls Try.prog 9 #[.int .i64 a0, .int .i64 a1] w fun e w' => e = .returned (.bool true) ∧ Below w.heap.size w w' := by
  have b0 := bounds_i64 w0
  have b1 := bounds_i64 w1
  clear w0 w1
  have r0 := enc_int_range a0 b0
  have r1 := enc_int_range a1 b1
  have HM := Lib.hid (enc_int_mono a0 a1)
  have HLA : Hid (∀ wr : World, VAt wr 0 (.mk 1 a0 ⟨#[]⟩ []) none 0) := Lib.hid fun wr => VAt.leaf ⟨by decide, by decide⟩ b0 (by decide) (fun _ => rfl) (by decide)
  have HSA : Hid (∀ wr : World, Calls Try.prog 14 #[.agg #[.int .i64 1, .int .i64 a0, .string ⟨#[]⟩, .slice none 0 0]] wr fun e w' => e = .returned (.tuple #[.int .i64 (enc (.mk 1 a0 ⟨#[]⟩ [])).length, .int .i64 0]) ∧ Below wr.heap.size wr w') := Lib.hid fun wr =>
    sizeG_any (good_int b0) (by rw [rank_leaf]; omega) (by omega) wr 0 none 0 (HLA.out wr)
  have HSB : Hid (∀ wr : World, Calls Try.prog 14 #[.agg #[.int .i64 1, .int .i64 a1, .string ⟨#[]⟩, .slice none 0 0]] wr fun e w' => e = .returned (.tuple #[.int .i64 (enc (.mk 1 a1 ⟨#[]⟩ [])).length, .int .i64 0]) ∧ Below wr.heap.size wr w') := Lib.hid fun wr =>
    sizeG_any (good_int b1) (by rw [rank_leaf]; omega) (by omega) wr 0 none 0 (VAt.leaf ⟨by decide, by decide⟩ b1 (by decide) (fun _ => rfl) (by decide))
  have HEA : Hid (∀ wr : World, Calls Try.prog 12 #[.agg #[.int .i64 1, .int .i64 a0, .string ⟨#[]⟩, .slice none 0 0]] wr fun e w' => Below wr.heap.size wr w' ∧ ∃ q c, e = .returned (.tuple #[.slice q (enc (.mk 1 a0 ⟨#[]⟩ [])).length c, .int .i64 0]) ∧ BAt w' wr.heap.size q (enc (.mk 1 a0 ⟨#[]⟩ [])) ∧ (enc (.mk 1 a0 ⟨#[]⟩ [])).length ≤ c ∧ c ≤ 9223372036854775807 ∧ (q = none → c = 0)) := Lib.hid fun wr =>
    encG_any (good_int b0) (by rw [rank_leaf]; omega) (by omega) wr 0 none 0 (HLA.out wr)
  have HDA : Hid (∀ (wr : World) (B : Nat) (q : Option Addr) (c : Nat), BAt wr B q (enc (.mk 1 a0 ⟨#[]⟩ [])) → (enc (.mk 1 a0 ⟨#[]⟩ [])).length ≤ c → Calls Try.prog 18 #[.slice q (enc (.mk 1 a0 ⟨#[]⟩ [])).length c] wr fun e w' => Below wr.heap.size wr w' ∧ ∃ p cap, e = .returned (.tuple #[.agg #[.int .i64 1, .int .i64 a0, .string ⟨#[]⟩, .slice p 0 cap], .int .i64 0]) ∧ VAt w' wr.heap.size (.mk 1 a0 ⟨#[]⟩ []) p cap) := Lib.hid fun wr B q c hq hc =>
    decG_any (good_int b0) (by omega) wr B q c hq hc
  generalize hx : enc (.mk 1 a0 ⟨#[]⟩ []) = x at *
  generalize enc (.mk 1 a1 ⟨#[]⟩ []) = y at *
  clear hx
  generalize hm : x.length = m at *
  have HML := Lib.hid hm; clear hm
  generalize y.length = n at *
  obtain ⟨r01, r02⟩ := r0
  obtain ⟨r11, r12⟩ := r1
  go_enter Try.func9, Try.ntmps9
  go_wp2_with fail
  go_at_call 10
  refine (sane_any w).mono ?_
  rintro e w1 ⟨rfl, hb⟩
  have HB1 := Lib.hid hb; clear hb
  go_wp2_with fail
  go_at_call 23
  refine (int_any a0 w1).mono ?_
  rintro e w2 ⟨rfl, hb⟩
  have HB2 := Lib.hid (HB1.out.trans (hb.mono HB1.out.size)); clear hb HB1
  unfold vV
  go_wp2_with fail
  go_at_call 14
  refine (HSA.out w2).mono ?_
  rintro e w3 ⟨rfl, hb⟩
  have HB3 := Lib.hid (HB2.out.trans (hb.mono HB2.out.size)); clear hb HB2 HSA
  go_wp2_with fail
  go_at_call 23
  refine (int_any a1 w3).mono ?_
  rintro e w4 ⟨rfl, hb⟩
  have HB4 := Lib.hid (HB3.out.trans (hb.mono HB3.out.size)); clear hb HB3
  unfold vV
  go_wp2_with fail
  go_at_call 14
  refine (HSB.out w4).mono ?_
  rintro e w5 ⟨rfl, hb⟩
  have HB5 := Lib.hid (HB4.out.trans (hb.mono HB4.out.size)); clear hb HB4 HSB
  have n1 : ¬ (m : Int) < 2 := by omega
  have n2 : ¬ (11 : Int) < m := by omega
  have n3 : ¬ (n : Int) < 2 := by omega
  have n4 : ¬ (11 : Int) < n := by omega
  go_wp2_with fail
  all_goals first
    | (go_at_call 23
       refine (int_any a0 w5).mono ?_
       rintro e w6 ⟨rfl, hb⟩
       have HB6 := Lib.hid (HB5.out.trans (hb.mono HB5.out.size)); clear hb
       unfold vV
       go_wp2_with fail
       go_at_call 12
       refine (HEA.out w6).mono ?_
       rintro e w7 ⟨hb, q, c, rfl, hq, hc, _⟩
       have HB7 := Lib.hid (HB6.out.trans (hb.mono HB6.out.size)); clear hb
       have HD := Lib.hid (HDA.out w7 _ q c hq hc)
       clear hq hc
       go_wp2_with fail
       go_at_call 18
       refine HD.out.mono ?_
       rintro e w8 ⟨hb, p, cap, rfl, _⟩
       have HB8 : Hid (∀ o, Below w.heap.size w (w8.alloc o)) := Lib.hid fun o => HB7.out.trans ((hb.mono HB7.out.size).alloc (Nat.le_trans HB7.out.size hb.size) o)
       clear hb HD
       go_wp2_with fail
       go_ret
       exact ⟨rfl, HB8.out _⟩)
    | (go_light
       exfalso
       have := HM.out (by omega)
       omega)

/-! ### THE ROW's STEP: WRITTEN OUT: LEAVE IT -/
set_option maxRecDepth 100000 in
theorem lifted (os : Os) (started : os.Started) (H : Type) (enc : TypeId × Value → H) :
    ReturnsInHanded {} Try.checked os 9 .any (Rows.codecNumbersSpec.pre6 enc Try.prog Try.f9 Rows.codecNumbersRow.domain false) (Rows.codecNumbersSpec.post enc Try.prog Try.f9 false true false false) := by
  refine returnsInHanded_of_change (C := Try.checked) own started (by kernel_rfl) Try.func9
    (ChangeSpec.witness6 (enc := enc) (C := Try.checked) false ⟨#[], #[.int .i64 0, .int .i64 0], []⟩ 8 (by kernel_rfl) (by kernel_rfl) (by kernel_rfl) (by kernel_rfl)) ?_
  intro W base args ds gs before hval0 hW hcnd _
  have hval : ∀ (j : Nat) t v, Try.f9.params[j]? = some t → args[j]? = some v → Value.okWide Try.prog W .any base t v := hval0
  have hW' := hW
  obtain ⟨p, q, hA0, hV, rfl, hfz, hnd⟩ := hW
  have hA : DataW.TrodAll enc Try.prog W 0 (fun _ => true) true Try.f9.params.toList args.toList ds p := hA0
  rw [Try.params9] at hA hval
  obtain ⟨v0, vs0, d0, ds0, p0, q0, hargs, rfl, rfl, h0, r0⟩ := trodAll_cons hA
  obtain ⟨v1, vs1, d1, ds1, p1, q1, rfl, rfl, rfl, h1, r1⟩ := trodAll_cons r0
  obtain ⟨rfl, rfl, rfl⟩ := trodAll_nil r1
  obtain rfl : args = #[v0, v1] := by cases args; simp_all
  obtain ⟨rfl, rfl⟩ := trodVars_none hV
  obtain ⟨a0, rfl, rfl, rfl, w0⟩ := open_int Try.underlying3 (hval 0 3 v0 rfl rfl) h0
  obtain ⟨a1, rfl, rfl, rfl, w1⟩ := open_int Try.underlying3 (hval 1 3 v1 rfl rfl) h1
  clear hA0 hval0
  simp only [List.append_nil] at hW'
  refine (walk a0 a1 w0 w1 W).mono fun e W' ⟨he, hg⟩ => ?_
  subst he
  exact ⟨_, rfl, _, _, _, [], [], [], hW', (trodAll_cons_mk (shut_bool Try.underlying4 _) trodAll_mk0), (trodAll_cons_mk (shut_int Try.underlying3 w0) (trodAll_cons_mk (shut_int Try.underlying3 w1) trodAll_mk0)), rfl, hg.frame _, fun h => by cases h⟩

theorem over : Rows.codecNumbersRow.holds Try.pinned (OpenSpec.ofChange Rows.codecNumbersSpec) :=
  OpenClaim.holds_of_wide 9 Try.f9 rfl rfl rfl rfl rfl rfl rfl ⟨rfl, rfl, rfl, rfl, rfl⟩ rfl rfl rfl rfl rfl (by kernel_rfl) Try.func9 (by kernel_rfl)
    (of_decide_eq_true (by kernel_rfl)) (by unfold Func.isWrapper; first | (rw [if_pos (by decide +kernel)]; kernel_rfl) | (rw [if_neg (by decide +kernel)]; exact ⟨rfl, rfl⟩))
    (fun os started H enc _ => lifted os started H enc)

/-- ████ THE STATEMENT ████ -/
theorem proved : Rows.CodecNumbersSaid :=
  over
#print axioms proved
end Go.Proofs.Ytopkpdaingmmeaa.codecNumbers
