/- LexisTimes: the law returns true for all arguments. -/
import Derived.Test.YtlcmedimgoaneaaGreatDoorKLaid
import Derived.Test.YtlcmedimgoaneaaGreatDoorKSane
import Derived.Test.YtlcmedimgoaneaaGreatDoorKTtx
import Derived.Laws.IdiomStrings
import Derived.Test.YtlcmedimgoaneaaGreatDoorTie
import Derived.Test.YtlcmedimgoaneaaGreatDoorCards
import Derived.Deep.DeepHandedRow
import Derived.LaidMore
import Derived.LaidLaws
import Derived.Lay
import Derived.SevenTiedAt
import Derived.OpenShut
import Derived.ShutString
import Derived.Deep.Light
namespace Go.Proofs.YtlcmedimgoaneaaGreatDoor.lexisTimes
open Go.ChangeShapes Go.WideShapes Go.ChangeAt Go.RowKit Go.ChangeMaps

theorem own : ownKnob Tryz.prog.godebug = none := by kernel_rfl

theorem BAt.conv (w : World) (l : Bs) (K : Nat) (fr : Nat × Nat) : BAt (w.alloc (.cells (bytesRow (S l) K) 5 fr)) 0 (some ⟨w.heap.size, 0, none⟩) l :=
  ⟨fun _ => ⟨_, 0, rfl, Nat.zero_le _, by simp, fun i hi => by
    rw [World.cell?_alloc_mark, Nat.zero_add]
    unfold bytesRow
    rw [Array.getElem?_append_left (by simp [S]; exact hi)]
    simp [S, hi]⟩⟩
theorem timeE_cases (s : Bs) : (timeE s = 0 ∧ timeV s = some (timeT s)) ∨ (timeE s = 50 ∧ timeT s = 0) := by
  unfold timeE timeT
  cases h : timeV s with
  | none => exact Or.inr ⟨rfl, rfl⟩
  | some u => exact Or.inl ⟨rfl, rfl⟩
theorem timeE_of {s : Bs} {u : Int} (h : timeV s = some u) : timeE s = 0 ∧ timeT s = u := by
  unfold timeE timeT
  rw [h]; exact ⟨rfl, rfl⟩
theorem ttx_len (t : Int) (h : ¬ (t < -1099511627776 ∨ 1099511627776 < t)) : (ttx t).length ≤ 100 := by
  have l1 := dec_len 17 (t.natAbs / 1000000 / 60) (by omega)
  have l2 : (pad (t.natAbs / 1000000 % 60) 2).length = 2 := pad_len _ 1 (by omega)
  have l3 := dec_len 17 (t.natAbs / 1000000 / 60 / 60) (by omega)
  have l4 : (pad (t.natAbs / 1000000 / 60 % 60) 2).length = 2 := pad_len _ 1 (by omega)
  have l5 : (pad (t.natAbs % 1000000) 6).length = 6 := pad_len _ 5 (by omega)
  have l6 := trimZ_len (pad (t.natAbs % 1000000) 6)
  rcases ttx_cases t with ⟨_, e⟩ | ⟨_, e⟩ <;> rw [e] <;> unfold ttA hm frT <;> split <;> split <;> simp only [List.length_append, List.length_cons, List.length_nil] <;> omega

set_option maxHeartbeats 4000000 in
set_option maxRecDepth 100000 in
theorem walk (s : Bs) (t : Int) (w : World) (hG : Gl w) : Calls Tryz.prog 10 #[.string (S s), .int .i64 t] w fun e w' => e = .returned (.bool true) ∧ Below w.heap.size w w' := by
  have HG := Lib.hid hG
  have hsz := S_size s
  have HS := Lib.hid (sane_any w hG)
  clear hG
  by_cases hl : 1000 < s.length
  · have hli : (1000 : Int) < (s.length : Int) := by omega
    go_enter Tryz.func10, Tryz.ntmps10
    go_wp2_with fail
    go_at_call 11
    refine HS.out.mono ?_
    rintro e w1 ⟨rfl, hb'⟩
    have HB1 := Lib.hid hb'; clear hb'
    go_wp2_with fail
    go_ret
    exact ⟨rfl, HB1.out⟩
  · have hli : ¬ (1000 : Int) < (s.length : Int) := by omega
    have HT := Lib.hid (fun w1 (hb : Below w.heap.size w w1) => time_any s (by omega) w1 (HG.out.bel' hb))
    have HX := Lib.hid (fun w1 (hb : Below w.heap.size w w1) => timeText_any t w1 (HG.out.bel' hb))
    by_cases ht : t < -1099511627776 ∨ 1099511627776 < t
    · rw [if_pos ht] at HX
      clear ht
      go_enter Tryz.func10, Tryz.ntmps10
      go_wp2_with fail
      go_at_call 11
      refine HS.out.mono ?_
      rintro e w1 ⟨rfl, hb'⟩
      have HB1 := Lib.hid hb'; clear hb'
      go_wp2_with fail
      go_at_call 24
      refine (HX.out _ HB1.out).mono ?_
      rintro e w2 ⟨rfl, hb'⟩
      have HB2 := Lib.hid (HB1.out.trans (hb'.mono HB1.out.size)); clear hb'
      rcases timeE_cases s with ⟨hE, hV⟩ | ⟨hE, hU⟩
      · have hle := timeV_le hV
        rw [hE] at HT
        generalize timeT s = u at *
        have HX2 := Lib.hid (fun w1 (hb : Below w.heap.size w w1) => timeText_any u w1 (HG.out.bel' hb))
        rw [if_neg hle] at HX2
        have HT2 := Lib.hid (fun w1 (hb : Below w.heap.size w w1) => time_any (ttx u) (by have := ttx_len u hle; omega) w1 (HG.out.bel' hb))
        rw [(timeE_of (timeV_ttx u hle)).1, (timeE_of (timeV_ttx u hle)).2] at HT2
        clear hE hV hle
        go_wp2_with fail
        go_at_call 22
        refine (HT.out _ HB2.out).mono ?_
        rintro e w21 ⟨rfl, hb'⟩
        have HB21 := Lib.hid (HB2.out.trans (hb'.mono HB2.out.size)); clear hb'
        go_wp2_with fail
        go_at_call 24
        refine (HX2.out _ HB21.out).mono ?_
        rintro e w22 ⟨rfl, hb'⟩
        have HB22 := Lib.hid (HB21.out.trans (hb'.mono HB21.out.size)); clear hb'
        go_wp2_with fail
        go_at_call 22
        refine (HT2.out _ HB22.out).mono ?_
        rintro e w23 ⟨rfl, hb'⟩
        have HB23 := Lib.hid (HB22.out.trans (hb'.mono HB22.out.size)); clear hb'
        go_wp2_with fail
        go_ret
        exact ⟨rfl, HB23.out⟩
      · rw [hE, hU] at HT
        clear hE hU
        go_wp2_with fail
        go_at_call 22
        refine (HT.out _ HB2.out).mono ?_
        rintro e w21 ⟨rfl, hb'⟩
        have HB21 := Lib.hid (HB2.out.trans (hb'.mono HB2.out.size)); clear hb'
        go_wp2_with fail
        go_ret
        exact ⟨rfl, HB21.out⟩
    · rw [if_neg ht] at HX
      have kb := fun (w : World) (x : ByteArray) => run_bytes_of_string (P := Tryz.prog) w 9 22 5 x Tryz.underlying9 Tryz.underlying22 Tryz.underlying5
      have hxl := ttx_len t ht
      have hxs := S_size (ttx t)
      have HT1 := Lib.hid (fun w1 (hb : Below w.heap.size w w1) => time_any (ttx t) (by omega) w1 (HG.out.bel' hb))
      rw [(timeE_of (timeV_ttx t ht)).1, (timeE_of (timeV_ttx t ht)).2] at HT1
      have HK : Hid (∀ w1 (hb : Below w.heap.size w w1) (B : Nat) (p : Option Addr) (cap : Nat) (hp : BAt w1 B p (ttx t)), Calls Tryz.prog 12 #[.slice p (ttx t).length cap] w1 fun e w' => Below w1.heap.size w1 w' ∧
          ∃ v1 v2, e = .returned (.tuple #[v1, v2, .int .i64 0]) ∧ TRow w' w1.heap.size v1 [⟨3, ttx t, 0⟩, ⟨6, [], (ttx t).length⟩] ∧ PRow w' w1.heap.size v2 []) := Lib.hid fun w1 hb B p cap hp => by
        have := tokens_ok (ttx t) (by omega) w1 (HG.out.bel' hb) B p cap hp
        rw [tokens_ttx t ht] at this
        exact this
      clear ht
      generalize ttx t = x at *
      go_enter Tryz.func10, Tryz.ntmps10
      go_wp2_with fail
      go_at_call 11
      refine HS.out.mono ?_
      rintro e w1 ⟨rfl, hb'⟩
      have HB1 := Lib.hid hb'; clear hb'
      go_wp2_with fail
      go_at_call 24
      refine (HX.out _ HB1.out).mono ?_
      rintro e w2 ⟨rfl, hb'⟩
      have HB2 := Lib.hid (HB1.out.trans (hb'.mono HB1.out.size)); clear hb'
      go_wp2_with fail
      go_at_call 22
      refine (HT1.out _ HB2.out).mono ?_
      rintro e w3 ⟨rfl, hb'⟩
      have HB3 := Lib.hid (HB2.out.trans (hb'.mono HB2.out.size)); clear hb'
      go_wp2_with fail
      go_at_call 12
      have hbd := HB3.out.drew
      refine (HK.out _ (hbd.alloc hbd.size _) 0 _ _ (BAt.conv _ _ _ _)).mono ?_
      rintro e w4 ⟨hb', v1, v2, rfl, htr, hpr⟩
      obtain ⟨p1, c1, hv, hT1, -, -, -⟩ := htr.reads (by simp) (by
        intro y hy
        simp only [List.mem_cons, List.mem_nil_iff, or_false] at hy
        rcases hy with rfl | rfl
        · show x.length ≤ _; omega
        · show 0 ≤ _; omega)
      have hv : v1 = .slice p1 2 c1 := hv
      subst hv
      obtain ⟨q1, d1, hv, -, -, -⟩ := hpr.reads
      have hv : v2 = .slice q1 0 d1 := hv
      subst hv
      obtain ⟨b1, o1, rfl, -, -, hc1⟩ := hT1.at' (by simp)
      obtain ⟨y0, y1, -⟩ := hc1 0 (by simp)
      simp only [Nat.zero_mul, Nat.add_zero, List.getElem_cons_zero] at y0 y1
      have HB4 := Lib.hid ((hbd.alloc hbd.size _).trans (hb'.mono (hbd.alloc hbd.size _).size))
      clear hb' htr hpr hT1 hc1 hbd kb
      rcases timeE_cases s with ⟨hE, hV⟩ | ⟨hE, hU⟩
      · have hle := timeV_le hV
        rw [hE] at HT
        generalize timeT s = u at *
        have HX2 := Lib.hid (fun w1 (hb : Below w.heap.size w w1) => timeText_any u w1 (HG.out.bel' hb))
        rw [if_neg hle] at HX2
        have HT2 := Lib.hid (fun w1 (hb : Below w.heap.size w w1) => time_any (ttx u) (by have := ttx_len u hle; omega) w1 (HG.out.bel' hb))
        rw [(timeE_of (timeV_ttx u hle)).1, (timeE_of (timeV_ttx u hle)).2] at HT2
        clear hE hV hle
        go_wp2_with fail
        go_at_call 22
        refine (HT.out _ HB4.out).mono ?_
        rintro e w21 ⟨rfl, hb'⟩
        have HB21 := Lib.hid (HB4.out.trans (hb'.mono HB4.out.size)); clear hb'
        go_wp2_with fail
        go_at_call 24
        refine (HX2.out _ HB21.out).mono ?_
        rintro e w22 ⟨rfl, hb'⟩
        have HB22 := Lib.hid (HB21.out.trans (hb'.mono HB21.out.size)); clear hb'
        go_wp2_with fail
        go_at_call 22
        refine (HT2.out _ HB22.out).mono ?_
        rintro e w23 ⟨rfl, hb'⟩
        have HB23 := Lib.hid (HB22.out.trans (hb'.mono HB22.out.size)); clear hb'
        go_wp2_with fail
        go_ret
        exact ⟨rfl, HB23.out⟩
      · rw [hE, hU] at HT
        clear hE hU
        go_wp2_with fail
        go_at_call 22
        refine (HT.out _ HB4.out).mono ?_
        rintro e w21 ⟨rfl, hb'⟩
        have HB21 := Lib.hid (HB4.out.trans (hb'.mono HB4.out.size)); clear hb'
        go_wp2_with fail
        go_ret
        exact ⟨rfl, HB21.out⟩

theorem witness (os : Os) {H : Type} (enc : TypeId × Value → H) :
    ∃ (w : World) (tape : Tape) (i : Input), w.os = os ∧ (w.forCall tape i).Shaped Tryz.checked.prog ∧ i.vars = [] ∧ Input.okWide Tryz.checked.prog (w.forCall tape i) .any w.heap.size 10 i ∧
      ((Rows.lexisTimesSpec.pre enc Tryz.checked.prog Tryz.f10 Rows.lexisTimesRow.domain false (w.forCall tape i).memory i.args ∧ laidMetH Tryz.prog Rows.lexisTimesRow.laid (w.forCall tape i).memory) ∧ sizedMet enc Tryz.checked.prog Tryz.f10 (OpenSpec.ofChange Rows.lexisTimesSpec) false (w.forCall tape i).memory i.args) ∧ ({ modest := false } : Assume).holds Tryz.checked.prog (lone (Frame.enter Tryz.checked.prog 10 i.args .normal) [] (w.forCall tape i)) :=
  ChangeSpec.witness_shaped (enc := enc) (C := Tryz.checked) (os := os) (X := fun w _ => laidMetH Tryz.prog Rows.lexisTimesRow.laid w) false (World.laidAll Tryz.prog os Rows.lexisTimesRow.laid) #[.string ⟨#[]⟩, .int .i64 0] 8 (World.laidAll_os _ _ _)
    (World.shaped_of_ZipB (by kernel_rfl) (by kernel_rfl)) (by kernel_rfl) (by kernel_rfl) (by kernel_rfl)
    (by rw [MakeChecks.laidMetH_plain _ _ _ (by kernel_rfl)]; exact laidMet_laidAll _ (by kernel_rfl) (by kernel_rfl))

set_option maxRecDepth 100000 in
theorem lifted (os : Os) (started : os.Started) (H : Type) (enc : TypeId × Value → H) (F : Stop.Interp) :
    ReturnsInHanded {} Tryz.checked os 10 .any ((OpenSpec.ofChange Rows.lexisTimesSpec).preRow enc Tryz.prog Tryz.f10 Rows.lexisTimesRow.domain false Rows.lexisTimesRow.laid)
      (((OpenSpec.ofChange Rows.lexisTimesSpec).at F).post enc Tryz.prog Tryz.f10 false true false false) := by
  refine returnsInHanded_of_row (C := Tryz.checked) (s := OpenSpec.ofChange Rows.lexisTimesSpec) own started (by kernel_rfl) Tryz.func10 (witness os enc) ?_
  intro W base args ds gs before hval0 hW _ _ _ hL hsh _
  have hval : ∀ (j : Nat) t v, Tryz.f10.params[j]? = some t → args[j]? = some v → Value.okWide Tryz.prog W .any base t v := hval0
  have hW' := hW
  obtain ⟨p, q, hA0, hV0, rfl, hfz, hnd⟩ := hW
  have hA : DataW.TrodAll enc Tryz.prog W 0 (fun _ => true) true Tryz.f10.params.toList args.toList ds p := hA0
  have hV : DataW.TrodVars enc Tryz.prog W (fun _ => true) [] gs q := hV0
  rw [Tryz.params10] at hA hval
  obtain ⟨v0, v1, d0, d1, p0, p1, rfl, rfl, rfl, h0, h1⟩ := trodAll_two hA
  obtain ⟨rfl, rfl⟩ := trodVars_none hV
  obtain ⟨s, rfl, rfl, rfl, ws⟩ := open_string Tryz.underlying9 (hval 0 9 v0 rfl rfl) h0
  obtain ⟨t, rfl, rfl, rfl, wt⟩ := open_int Tryz.underlying3 (hval 1 3 v1 rfl rfl) h1
  clear hA0 hV0 hval0
  simp only [List.append_nil] at hW'
  refine (walk s.data.toList t W (of_laid hL hsh)).mono fun e W' ⟨he, hg⟩ => ?_
  subst he
  exact ⟨_, rfl, _, _, _, [], [], [], hW', (trodAll_cons_mk (shut_bool Tryz.underlying4 _) trodAll_mk0), (trodAll_cons_mk (shut_string Tryz.underlying9 ws) (trodAll_cons_mk (shut_int Tryz.underlying3 wt) trodAll_mk0)), rfl, hg.frame _, fun h => by cases h⟩

theorem over : Rows.LexisTimesSaid :=
  OpenClaim.holds_of_cond 10 Tryz.f10 rfl rfl rfl rfl rfl rfl rfl ⟨rfl, rfl, rfl, rfl, rfl⟩ rfl rfl rfl rfl rfl (by kernel_rfl) Tryz.func10 (by kernel_rfl)
    (of_decide_eq_true (by kernel_rfl)) (by unfold Func.isWrapper; first | (rw [if_pos (by decide +kernel)]; kernel_rfl) | (rw [if_neg (by decide +kernel)]; exact ⟨rfl, rfl⟩))
    (fun os started H enc _ F0 => by rw [OpenClaim.pre_eq_preRow]; exact lifted os started H enc F0)

/-- THE STATEMENT: the tied card. -/
theorem proved : Rows.LexisTimesCardSaid :=
  Claim7.holds_tied_plain_at .later [] Rows.lexisTimesCard.laidKinds true Rows.lexisTimesCard.stood.harness false
    over (fun _ h => by cases h) (by kernel_rfl) (fun _ h => by cases h) lexisTimes_row_tie rfl ⟨rfl, rfl⟩ (by kernel_rfl) rfl
    (fun f fn hf hfn => by
      obtain rfl : f = 10 := Option.some.inj ((show Tryz.prog.funcNamed "stopwatch/stopwatchlaw05.LexisTimes" = some 10 by kernel_rfl).symm.trans hf) |>.symm
      obtain rfl : fn = Tryz.f10 := (Option.some.inj (Tryz.func10.symm.trans hfn)).symm
      exact ⟨by kernel_rfl, fun j t ht => by
        rw [Tryz.params10] at ht
        have hm : t ∈ [9, 3] := by simpa using Array.mem_of_getElem? ht
        have hall : ([9, 3].all fun u => !Tryz.prog.wantsStandIn u) = true := by kernel_rfl
        exact (show Tryz.prog.wantsStandIn t = false by simpa using List.all_eq_true.1 hall t hm)⟩)
    (by kernel_rfl)
#print axioms proved
end Go.Proofs.YtlcmedimgoaneaaGreatDoor.lexisTimes
