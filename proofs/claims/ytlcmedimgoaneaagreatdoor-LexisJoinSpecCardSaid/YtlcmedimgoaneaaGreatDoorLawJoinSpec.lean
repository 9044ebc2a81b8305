/- LexisJoinSpec: the law returns true for all arguments. -/
import Derived.Test.YtlcmedimgoaneaaGreatDoorKLaid
import Derived.Test.YtlcmedimgoaneaaGreatDoorKSane
import Derived.Test.YtlcmedimgoaneaaGreatDoorKOpen
import Derived.Test.YtlcmedimgoaneaaGreatDoorKAlike
import Derived.Test.YtlcmedimgoaneaaGreatDoorKRefJoin
import Derived.BigQuiet
import Derived.Laws.IdiomStrings
import Derived.Test.YtlcmedimgoaneaaGreatDoorTie
import Derived.Test.YtlcmedimgoaneaaGreatDoorCards
import Derived.Deep.DeepHandedRow
import Derived.LaidMore
import Derived.LaidLaws
import Derived.Lay
import Derived.SevenTiedAt
import Derived.OpenShut
import Derived.ShutString
import Derived.Deep.Light
namespace Go.Proofs.YtlcmedimgoaneaaGreatDoor.lexisJoinSpec
open Go.ChangeShapes Go.WideShapes Go.ChangeAt Go.RowKit Go.ChangeMaps

theorem own : ownKnob Tryz.prog.godebug = none := by kernel_rfl

theorem dec_last (L : List Tok) (h : L ≠ []) : ∃ l z, L = l ++ [z] := ⟨L.dropLast, L.getLast h, (List.dropLast_concat_getLast h).symm⟩
set_option maxHeartbeats 4000000 in
set_option maxRecDepth 100000 in
theorem walk (w : World) (hG : Gl w) (L : List Tok) (r0 : Option Addr) (c0 : Nat) (s0 : TAt w 0 r0 L) (m0 : L.length ≤ c0) (n0 : c0 ≤ 9223372036854775807) (s : Bs) :
    Calls Tryz.prog 4 #[.slice r0 L.length c0, .string (S s)] w fun e w' => e = .returned (.bool true) ∧ Below w.heap.size w w' := by
  have HG := Lib.hid hG
  have HS := Lib.hid (sane_any w hG)
  clear hG
  have hsz := S_size s
  have HF : Hid (∀ w1, Below w.heap.size w w1 → Calls Tryz.prog 16 #[.slice r0 L.length c0] w1 fun e w' => e = .returned (.bool (decide (sumT L ≤ 3000))) ∧ Below w1.heap.size w1 w') := Lib.hid fun w1 hb => few_any r0 c0 L w1 0 (s0.bel hb (Nat.le_refl _))
  have HK1 : Hid (∀ w1, Calls Tryz.prog 19 #[.string (S s)] w1 fun e w' => e = .returned (.bool (keywords.contains s)) ∧ w' = w1) := Lib.hid fun w1 => keyword_any s w1
  have HK2 : Hid (∀ w1, Calls Tryz.prog 20 #[.string (S s)] w1 fun e w' => e = .returned (.bool (keywords.contains s)) ∧ w' = w1) := Lib.hid fun w1 => refKeyword_any s w1
  generalize keywords.contains s = kw at *
  have hkw : (kw == kw) = true := beq_self_eq_true kw
  by_cases hfew : sumT L ≤ 3000
  · rw [decide_eq_true hfew] at HF
    by_cases hlong : 1000 < s.length
    · have hli : (1000 : Int) < (s.length : Int) := by omega
      clear s0 m0 hfew
      generalize L.length = n at *
      go_enter Tryz.func4, Tryz.ntmps4
      go_wp2_with fail
      go_at_call 11
      refine HS.out.mono ?_
      rintro e w1 ⟨rfl, hb'⟩
      have HB1 := Lib.hid hb'; clear hb'
      go_wp2_with fail
      go_at_call 16
      refine (HF.out _ HB1.out).mono ?_
      rintro e w2 ⟨rfl, hb'⟩
      have HB2 := Lib.hid (HB1.out.trans (hb'.mono HB1.out.size)); clear hb'
      go_wp2_with fail
      go_ret
      exact ⟨rfl, HB2.out⟩
    · have hli : ¬ (1000 : Int) < (s.length : Int) := by omega
      have HJJ : ∃ je : Int, ∃ jb : Bs, Hid (∀ w1, Below w.heap.size w w1 → Calls Tryz.prog 17 #[.slice r0 L.length c0] w1 fun e w' => Below w1.heap.size w1 w' ∧
            ∃ v, e = .returned (.tuple #[v, .int .i64 je]) ∧ Row w' w1.heap.size v jb) ∧
          Hid (∀ w1, Below w.heap.size w w1 → Calls Tryz.prog 18 #[.slice r0 L.length c0] w1 fun e w' => Below w1.heap.size w1 w' ∧
            ∃ v, e = .returned (.tuple #[v, .int .i64 je]) ∧ Row w' w1.heap.size v jb) := by
        by_cases hL : L = []
        · subst hL
          refine ⟨1, [], Lib.hid fun w1 hb => (join0_any _ _ w1).mono ?_, Lib.hid fun w1 hb => (refJoin0_any _ _ w1).mono ?_⟩
          all_goals
            rintro e w2 ⟨rfl, hb2⟩
            exact ⟨hb2, _, rfl, Row.nil _ _⟩
        · obtain ⟨l, z, rfl⟩ := dec_last L hL
          obtain ⟨hlen, hts⟩ := sumT_len (l ++ [z])
          rw [List.length_append, List.length_singleton] at hlen m0 ⊢
          refine ⟨jE l z, jB l z, Lib.hid fun w1 hb => ?_, Lib.hid fun w1 hb => ?_⟩
          · exact join_any l z (by omega) (fun x hx => by have := hts x hx; omega) w1 (HG.out.bel' hb) 0 r0 c0 m0 n0 (s0.bel hb (Nat.le_refl _))
          · exact refJoin_any l z (by omega) (fun x hx => by have := hts x hx; omega) w1 0 r0 c0 (s0.bel hb (Nat.le_refl _))
      obtain ⟨je, jb, HJ1, HJ2⟩ := HJJ
      have hje : (je == je) = true := beq_self_eq_true je
      clear s0 m0 hfew n0
      generalize L.length = n at *
      go_enter Tryz.func4, Tryz.ntmps4
      go_wp2_with fail
      go_at_call 11
      refine HS.out.mono ?_
      rintro e w1 ⟨rfl, hb'⟩
      have HB1 := Lib.hid hb'; clear hb'
      go_wp2_with fail
      go_at_call 16
      refine (HF.out _ HB1.out).mono ?_
      rintro e w2 ⟨rfl, hb'⟩
      have HB2 := Lib.hid (HB1.out.trans (hb'.mono HB1.out.size)); clear hb'
      go_wp2_with fail
      go_at_call 17
      refine (HJ1.out _ HB2.out).mono ?_
      rintro e w3 ⟨hb', v3, rfl, hr3⟩
      have HR3 := Lib.hid hr3; clear hr3
      have HB3 := Lib.hid (HB2.out.trans (hb'.mono HB2.out.size)); clear hb'
      go_wp2_with fail
      go_at_call 18
      refine (HJ2.out _ HB3.out).mono ?_
      rintro e w4 ⟨hb', v4, rfl, hr4⟩
      have hcv1 := strRow (HR3.out.bel hb' (Nat.le_refl _))
      have hcv2 := strRow hr4
      have HB4 := Lib.hid (HB3.out.trans (hb'.mono HB3.out.size)); clear hb' hr4
      go_wp2_with fail
      go_at_call 19
      refine (HK1.out _).mono ?_
      rintro e w5 ⟨rfl, rfl⟩
      go_wp2_with fail
      go_at_call 20
      refine (HK2.out _).mono ?_
      rintro e w6 ⟨rfl, rfl⟩
      go_wp2_with fail
      go_ret
      exact ⟨rfl, HB4.out⟩
  · rw [decide_eq_false hfew] at HF
    clear s0 m0 hfew
    generalize L.length = n at *
    go_enter Tryz.func4, Tryz.ntmps4
    go_wp2_with fail
    go_at_call 11
    refine HS.out.mono ?_
    rintro e w1 ⟨rfl, hb'⟩
    have HB1 := Lib.hid hb'; clear hb'
    go_wp2_with fail
    go_at_call 16
    refine (HF.out _ HB1.out).mono ?_
    rintro e w2 ⟨rfl, hb'⟩
    have HB2 := Lib.hid (HB1.out.trans (hb'.mono HB1.out.size)); clear hb'
    go_wp2_with fail
    go_ret
    exact ⟨rfl, HB2.out⟩


theorem witness (os : Os) {H : Type} (enc : TypeId × Value → H) :
    ∃ (w : World) (tape : Tape) (i : Input), w.os = os ∧ (w.forCall tape i).Shaped Tryz.checked.prog ∧ i.vars = [] ∧ Input.okWide Tryz.checked.prog (w.forCall tape i) .any w.heap.size 4 i ∧
      ((Rows.lexisJoinSpecSpec.pre enc Tryz.checked.prog Tryz.f4 Rows.lexisJoinSpecRow.domain false (w.forCall tape i).memory i.args ∧ laidMetH Tryz.prog Rows.lexisJoinSpecRow.laid (w.forCall tape i).memory) ∧ sizedMet enc Tryz.checked.prog Tryz.f4 (OpenSpec.ofChange Rows.lexisJoinSpecSpec) false (w.forCall tape i).memory i.args) ∧ ({ modest := false } : Assume).holds Tryz.checked.prog (lone (Frame.enter Tryz.checked.prog 4 i.args .normal) [] (w.forCall tape i)) :=
  ChangeSpec.witness_shaped (enc := enc) (C := Tryz.checked) (os := os) (X := fun w _ => laidMetH Tryz.prog Rows.lexisJoinSpecRow.laid w) false (World.laidAll Tryz.prog os Rows.lexisJoinSpecRow.laid) #[.slice none 0 0, .string ⟨#[]⟩] 8 (World.laidAll_os _ _ _)
    (World.shaped_of_ZipB (by kernel_rfl) (by kernel_rfl)) (by kernel_rfl) (by kernel_rfl) (by kernel_rfl)
    (by rw [MakeChecks.laidMetH_plain _ _ _ (by kernel_rfl)]; exact laidMet_laidAll _ (by kernel_rfl) (by kernel_rfl))

set_option maxHeartbeats 1000000 in
set_option maxRecDepth 100000 in
theorem lifted (os : Os) (started : os.Started) (H : Type) (enc : TypeId × Value → H) (F : Stop.Interp) :
    ReturnsInHanded {} Tryz.checked os 4 .any ((OpenSpec.ofChange Rows.lexisJoinSpecSpec).preRow enc Tryz.prog Tryz.f4 Rows.lexisJoinSpecRow.domain false Rows.lexisJoinSpecRow.laid)
      (((OpenSpec.ofChange Rows.lexisJoinSpecSpec).at F).post enc Tryz.prog Tryz.f4 false true false false) := by
  refine returnsInHanded_of_row (C := Tryz.checked) (s := OpenSpec.ofChange Rows.lexisJoinSpecSpec) own started (by kernel_rfl) Tryz.func4 (witness os enc) ?_
  intro W base args ds gs before hval0 hW _ _ hsz0 hL hsh _
  have hsz : (DataW.weightsEach Tryz.prog (Tryz.f4.params.toList ++ (OpenSpec.ofChange Rows.lexisJoinSpecSpec).bare.plain.varTypes Tryz.prog) (ds ++ gs)).all (· ≤ reachBytes) = true := hsz0
  clear hsz0
  have hval : ∀ (j : Nat) t v, Tryz.f4.params[j]? = some t → args[j]? = some v → Value.okWide Tryz.prog W .any base t v := hval0
  have hW' := hW
  obtain ⟨p, q, hA0, hV0, rfl, hfz, hnd⟩ := hW
  have hA : DataW.TrodAll enc Tryz.prog W 0 (fun _ => true) true Tryz.f4.params.toList args.toList ds p := hA0
  have hV : DataW.TrodVars enc Tryz.prog W (fun _ => true) [] gs q := hV0
  rw [Tryz.params4] at hA hval hsz
  obtain ⟨v0, v1, d0, d1, p0, p1, rfl, rfl, rfl, h0, h1⟩ := trodAll_two hA
  obtain ⟨rfl, rfl⟩ := trodVars_none hV
  have h0k := h0
  have sz0 : ∀ n ∈ d0.weights Tryz.prog 24, n ≤ reachBytes := fun n hn => by
    have := List.all_eq_true.1 hsz n (DataW.weights_mem_each (j := 0) (t := 24) (d := d0) rfl rfl n hn)
    simpa using this
  obtain ⟨u0, r0, c0, rfl, s0, m0, n0⟩ := open_tokens (hval 0 24 v0 rfl rfl) h0 sz0
  obtain ⟨u1, rfl, rfl, rfl, wf1⟩ := open_string Tryz.underlying9 (hval 1 9 v1 rfl rfl) h1
  clear hA0 hV0 hval0
  simp only [List.append_nil] at hW'
  have lt0 : ∀ y ∈ p0, y.block < W.heap.size := fun y hy => by simpa using hW'.lt y (by simp [hy])
  refine (walk W (of_laid hL hsh) u0 r0 c0 s0 m0 n0 u1.data.toList).mono fun e W' ⟨he, hg⟩ => ?_
  subst he
  exact ⟨_, rfl, _, _, _, [], _, [], hW', trodAll_mk1 (shut_bool Tryz.underlying4 _), trodAll_mk2 (Below.trod laidOut (by kernel_rfl) (of_decide_eq_true (by kernel_rfl)) h0k hg lt0) (shut_string Tryz.underlying9 wf1), rfl, hg.frame _, fun h => by cases h⟩

theorem over : Rows.LexisJoinSpecSaid :=
  OpenClaim.holds_of_cond 4 Tryz.f4 rfl rfl rfl rfl rfl rfl rfl ⟨rfl, rfl, rfl, rfl, rfl⟩ rfl rfl rfl rfl rfl (by kernel_rfl) Tryz.func4 (by kernel_rfl)
    (of_decide_eq_true (by kernel_rfl)) (by unfold Func.isWrapper; first | (rw [if_pos (by decide +kernel)]; kernel_rfl) | (rw [if_neg (by decide +kernel)]; exact ⟨rfl, rfl⟩))
    (fun os started H enc _ F0 => by rw [OpenClaim.pre_eq_preRow]; exact lifted os started H enc F0)

/-- THE STATEMENT: the tied card. -/
theorem proved : Rows.LexisJoinSpecCardSaid :=
  Claim7.holds_tied_plain_at .later [] Rows.lexisJoinSpecCard.laidKinds true Rows.lexisJoinSpecCard.stood.harness false
    over (fun _ h => by cases h) (by kernel_rfl) (fun _ h => by cases h) lexisJoinSpec_row_tie rfl ⟨rfl, rfl⟩ (by kernel_rfl) rfl
    (fun f fn hf hfn => by
      obtain rfl : f = 4 := Option.some.inj ((show Tryz.prog.funcNamed "stopwatch/stopwatchlaw05.LexisJoinSpec" = some 4 by kernel_rfl).symm.trans hf) |>.symm
      obtain rfl : fn = Tryz.f4 := (Option.some.inj (Tryz.func4.symm.trans hfn)).symm
      exact ⟨by kernel_rfl, fun j t ht => by
        rw [Tryz.params4] at ht
        have hm : t ∈ [24, 9] := by simpa using Array.mem_of_getElem? ht
        have hall : ([24, 9].all fun u => !Tryz.prog.wantsStandIn u) = true := by kernel_rfl
        exact (show Tryz.prog.wantsStandIn t = false by simpa using List.all_eq_true.1 hall t hm)⟩)
    (by kernel_rfl)
#print axioms proved
end Go.Proofs.YtlcmedimgoaneaaGreatDoor.lexisJoinSpec
