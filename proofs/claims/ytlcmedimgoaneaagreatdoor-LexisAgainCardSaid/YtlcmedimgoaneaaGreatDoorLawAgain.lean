/- LexisAgain: the law returns true for all arguments. -/
import Derived.Test.YtlcmedimgoaneaaGreatDoorKLaid
import Derived.Test.YtlcmedimgoaneaaGreatDoorKSane
import Derived.Test.YtlcmedimgoaneaaGreatDoorKOpen
import Derived.Test.YtlcmedimgoaneaaGreatDoorKAlike
import Derived.Laws.IdiomStrings
import Derived.Test.YtlcmedimgoaneaaGreatDoorTie
import Derived.Test.YtlcmedimgoaneaaGreatDoorCards
import Derived.Deep.DeepHandedRow
import Derived.LaidMore
import Derived.LaidLaws
import Derived.Lay
import Derived.SevenTiedAt
import Derived.OpenShut
import Derived.ShutString
import Derived.Deep.Light
namespace Go.Proofs.YtlcmedimgoaneaaGreatDoor.lexisAgain
open Go.ChangeShapes Go.WideShapes Go.ChangeAt Go.RowKit Go.ChangeMaps

theorem own : ownKnob Tryz.prog.godebug = none := by kernel_rfl

set_option maxHeartbeats 4000000 in
set_option maxRecDepth 100000 in
theorem walk (w : World) (hG : Gl w) (l : Bs) (r0 : Option Addr) (c0 : Nat) (s0 : BAt w 0 r0 l) (_ : l.length ≤ c0) (_ : c0 ≤ 9223372036854775807) (l0 : l.length ≤ 140737488351232) :
    Calls Tryz.prog 6 #[.slice r0 l.length c0] w fun e w' => e = .returned (.bool true) ∧ Below w.heap.size w w' := by
  have HG := Lib.hid hG
  have HS := Lib.hid (sane_any w hG)
  clear hG
  by_cases hl : 3000 < l.length
  · have hli : (3000 : Int) < (l.length : Int) := by omega
    clear s0
    go_enter Tryz.func6, Tryz.ntmps6
    go_wp2_with fail
    go_at_call 11
    refine HS.out.mono ?_
    rintro e w1 ⟨rfl, hb'⟩
    have HB1 := Lib.hid hb'; clear hb'
    go_wp2_with fail
    go_ret
    exact ⟨rfl, HB1.out⟩
  · have hli : ¬ (3000 : Int) < (l.length : Int) := by omega
    obtain ⟨L0, e1, hok, hjl, hLl, hbad, hkt⟩ := tokens_again l
    have HT1 : Hid (∀ w1, Below w.heap.size w w1 → Calls Tryz.prog 12 #[.slice r0 l.length c0] w1 fun e w' => Below w1.heap.size w1 w' ∧
        ∃ p1 c1 v2, e = .returned (.tuple #[.slice p1 (L0.length + 1 : Nat) c1, v2, .int .i64 0]) ∧ TAt w' w1.heap.size p1 (L0.map Tk.tok ++ [⟨6, [], l.length⟩]) ∧ L0.length + 1 ≤ c1 ∧ c1 ≤ 9223372036854775807) := Lib.hid fun w1 hb => by
      refine (tokens_ok l (by omega) w1 (HG.out.bel' hb) 0 r0 c0 (s0.bel hb (Nat.le_refl _))).mono ?_
      rintro e w2 ⟨hb2, v1, v2, rfl, ht, _⟩
      obtain ⟨p1, c1, hv, hT, hc, hm⟩ := reads_tokens (by omega) ht
      subst hv
      rw [e1] at hT hc ⊢
      rw [List.length_append, List.length_singleton] at hc ⊢
      exact ⟨hb2, p1, c1, v2, rfl, by simpa [Tk.tok] using hT, hc, hm⟩
    have hLt : ∀ x ∈ L0.map Tk.tok ++ [(⟨6, [], l.length⟩ : Tok)], x.t.length ≤ 100000 := by
      intro x hx
      rcases List.mem_append.1 hx with h | h
      · obtain ⟨y, hy, rfl⟩ := List.mem_map.1 h
        have := (tokens_small l).2 y (by rw [e1]; simp [hy])
        show y.t.length ≤ _
        omega
      · rw [List.mem_singleton.1 h]; simp
    have hjE : jE (L0.map Tk.tok) ⟨6, [], l.length⟩ = 0 ∧ jB (L0.map Tk.tok) ⟨6, [], l.length⟩ = jt (L0.map Tk.tok) := by
      have : jE (L0.map Tk.tok) ⟨6, [], l.length⟩ = 0 := by
        unfold jE
        rw [if_pos ⟨rfl, rfl⟩, if_pos hok, if_neg (by omega)]
      exact ⟨this, by unfold jB; rw [if_pos this]⟩
    have HJ : Hid (∀ w1 B p1 c1, Below w.heap.size w w1 → TAt w1 B p1 (L0.map Tk.tok ++ [⟨6, [], l.length⟩]) → L0.length + 1 ≤ c1 → c1 ≤ 9223372036854775807 → Calls Tryz.prog 17 #[.slice p1 (L0.length + 1 : Nat) c1] w1 fun e w' => Below w1.heap.size w1 w' ∧
        ∃ q d, e = .returned (.tuple #[.slice q (jt (L0.map Tk.tok)).length d, .int .i64 0]) ∧ BAt w' w1.heap.size q (jt (L0.map Tk.tok))) := Lib.hid fun w1 B p1 c1 hb hT hc hm => by
      have := join_any (L0.map Tk.tok) ⟨6, [], l.length⟩ (by rw [List.length_map]; omega) hLt w1 (HG.out.bel' hb) B p1 c1 (by rw [List.length_map]; exact hc) hm hT
      rw [List.length_map, hjE.1, hjE.2] at this
      refine this.mono ?_
      rintro e w2 ⟨hb2, v, rfl, hr⟩
      obtain ⟨q, d, rfl, hq⟩ := hr.reads
      exact ⟨hb2, q, d, rfl, hq⟩
    have HT2 : Hid (∀ w1 B q d, Below w.heap.size w w1 → BAt w1 B q (jt (L0.map Tk.tok)) → Calls Tryz.prog 12 #[.slice q (jt (L0.map Tk.tok)).length d] w1 fun e w' => Below w1.heap.size w1 w' ∧
        ∃ p1 c1 q1 d1, e = .returned (.tuple #[.slice p1 (tokens (jt (L0.map Tk.tok))).1.length c1, .slice q1 0 d1, .int .i64 0]) ∧ TAt w' w1.heap.size p1 ((tokens (jt (L0.map Tk.tok))).1.map Tk.tok)) := Lib.hid fun w1 B q d hb hq => by
      refine (tokens_ok _ (by omega) w1 (HG.out.bel' hb) B q d hq).mono ?_
      rintro e w2 ⟨hb2, v1, v2, rfl, ht, hp⟩
      obtain ⟨p1, c1, hv, hT, -, -⟩ := reads_tokens (by omega) ht
      rw [hbad] at hp
      obtain ⟨q1, d1, hv2, -, -, -⟩ := hp.reads
      subst hv hv2
      exact ⟨hb2, p1, c1, q1, d1, rfl, hT⟩
    have HA : Hid (∀ w1 B B' p1 c1 p2 c2, TAt w1 B p1 (L0.map Tk.tok ++ [⟨6, [], l.length⟩]) → TAt w1 B' p2 ((tokens (jt (L0.map Tk.tok))).1.map Tk.tok) → Calls Tryz.prog 21 #[.slice p1 (L0.length + 1 : Nat) c1, .slice p2 (tokens (jt (L0.map Tk.tok))).1.length c2] w1 fun e w' => e = .returned (.bool true) ∧ Below w1.heap.size w1 w') := Lib.hid fun w1 B B' p1 c1 p2 c2 h1 h2 => by
      have := alike_any p1 p2 c1 c2 _ _ w1 B B' h1 h2
      rw [List.length_append, List.length_singleton, List.length_map, List.length_map, decide_eq_true] at this
      · exact this
      · rw [map_ktT, hkt, e1, List.map_append, List.map_append, map_ktT]
        rfl
    clear e1 hok hjl hLl hbad hkt hLt hjE s0
    generalize L0.map Tk.tok ++ [(⟨6, [], l.length⟩ : Tok)] = La at *
    generalize (tokens (jt (L0.map Tk.tok))).1.map Tk.tok = Ma at *
    generalize (tokens (jt (L0.map Tk.tok))).1.length = mn at *
    generalize jt (L0.map Tk.tok) = jl at *
    generalize L0.length + 1 = ln at *
    go_enter Tryz.func6, Tryz.ntmps6
    go_wp2_with fail
    go_at_call 11
    refine HS.out.mono ?_
    rintro e w1 ⟨rfl, hb'⟩
    have HB1 := Lib.hid hb'; clear hb'
    go_wp2_with fail
    go_at_call 12
    refine (HT1.out _ HB1.out).mono ?_
    rintro e w2 ⟨hb', p1, c1, v2, rfl, hTa, hc1, hm1⟩
    have HTA := Lib.hid hTa; clear hTa
    have HB2 := Lib.hid (HB1.out.trans (hb'.mono HB1.out.size)); clear hb'
    go_wp2_with fail
    go_at_call 17
    refine (HJ.out _ _ _ _ HB2.out HTA.out hc1 hm1).mono ?_
    rintro e w3 ⟨hb', q, d, rfl, hq⟩
    have HQ := Lib.hid hq; clear hq
    have HTA := Lib.hid (HTA.out.bel hb' (Nat.le_refl _))
    have HB3 := Lib.hid (HB2.out.trans (hb'.mono HB2.out.size)); clear hb'
    go_wp2_with fail
    go_at_call 12
    refine (HT2.out _ _ _ _ HB3.out HQ.out).mono ?_
    rintro e w4 ⟨hb', p2, c2, q1, d1, rfl, hMa⟩
    have HMA := Lib.hid hMa; clear hMa
    have HTA := Lib.hid (HTA.out.bel hb' (Nat.le_refl _))
    have HB4 := Lib.hid (HB3.out.trans (hb'.mono HB3.out.size)); clear hb'
    go_wp2_with fail
    go_at_call 21
    refine (HA.out _ _ _ _ _ _ _ HTA.out HMA.out).mono ?_
    rintro e w5 ⟨rfl, hb'⟩
    have HB5 := Lib.hid (HB4.out.trans (hb'.mono HB4.out.size)); clear hb'
    go_wp2_with fail
    go_ret
    exact ⟨rfl, HB5.out⟩


theorem witness (os : Os) {H : Type} (enc : TypeId × Value → H) :
    ∃ (w : World) (tape : Tape) (i : Input), w.os = os ∧ (w.forCall tape i).Shaped Tryz.checked.prog ∧ i.vars = [] ∧ Input.okWide Tryz.checked.prog (w.forCall tape i) .any w.heap.size 6 i ∧
      ((Rows.lexisAgainSpec.pre enc Tryz.checked.prog Tryz.f6 Rows.lexisAgainRow.domain false (w.forCall tape i).memory i.args ∧ laidMetH Tryz.prog Rows.lexisAgainRow.laid (w.forCall tape i).memory) ∧ sizedMet enc Tryz.checked.prog Tryz.f6 (OpenSpec.ofChange Rows.lexisAgainSpec) false (w.forCall tape i).memory i.args) ∧ ({ modest := false } : Assume).holds Tryz.checked.prog (lone (Frame.enter Tryz.checked.prog 6 i.args .normal) [] (w.forCall tape i)) :=
  ChangeSpec.witness_shaped (enc := enc) (C := Tryz.checked) (os := os) (X := fun w _ => laidMetH Tryz.prog Rows.lexisAgainRow.laid w) false (World.laidAll Tryz.prog os Rows.lexisAgainRow.laid) #[.slice none 0 0] 8 (World.laidAll_os _ _ _)
    (World.shaped_of_ZipB (by kernel_rfl) (by kernel_rfl)) (by kernel_rfl) (by kernel_rfl) (by kernel_rfl)
    (by rw [MakeChecks.laidMetH_plain _ _ _ (by kernel_rfl)]; exact laidMet_laidAll _ (by kernel_rfl) (by kernel_rfl))

set_option maxHeartbeats 1000000 in
set_option maxRecDepth 100000 in
theorem lifted (os : Os) (started : os.Started) (H : Type) (enc : TypeId × Value → H) (F : Stop.Interp) :
    ReturnsInHanded {} Tryz.checked os 6 .any ((OpenSpec.ofChange Rows.lexisAgainSpec).preRow enc Tryz.prog Tryz.f6 Rows.lexisAgainRow.domain false Rows.lexisAgainRow.laid)
      (((OpenSpec.ofChange Rows.lexisAgainSpec).at F).post enc Tryz.prog Tryz.f6 false true false false) := by
  refine returnsInHanded_of_row (C := Tryz.checked) (s := OpenSpec.ofChange Rows.lexisAgainSpec) own started (by kernel_rfl) Tryz.func6 (witness os enc) ?_
  intro W base args ds gs before hval0 hW _ _ hsz0 hL hsh _
  have hsz : (DataW.weightsEach Tryz.prog (Tryz.f6.params.toList ++ (OpenSpec.ofChange Rows.lexisAgainSpec).bare.plain.varTypes Tryz.prog) (ds ++ gs)).all (· ≤ reachBytes) = true := hsz0
  clear hsz0
  have hval : ∀ (j : Nat) t v, Tryz.f6.params[j]? = some t → args[j]? = some v → Value.okWide Tryz.prog W .any base t v := hval0
  have hW' := hW
  obtain ⟨p, q, hA0, hV0, rfl, hfz, hnd⟩ := hW
  have hA : DataW.TrodAll enc Tryz.prog W 0 (fun _ => true) true Tryz.f6.params.toList args.toList ds p := hA0
  have hV : DataW.TrodVars enc Tryz.prog W (fun _ => true) [] gs q := hV0
  rw [Tryz.params6] at hA hval hsz
  obtain ⟨v0, d0, rfl, rfl, h0⟩ := trodAll_one hA
  obtain ⟨rfl, rfl⟩ := trodVars_none hV
  have h0k := h0
  have sz0 : ∀ n ∈ d0.weights Tryz.prog 22, n ≤ reachBytes := fun n hn => by
    have := List.all_eq_true.1 hsz n (DataW.weights_mem_each (j := 0) (t := 22) (d := d0) rfl rfl n hn)
    simpa using this
  obtain ⟨u0, r0, c0, rfl, s0, m0, n0, l0⟩ := open_bytes (hval 0 22 v0 rfl rfl) h0 sz0
  clear hA0 hV0 hval0
  simp only [List.append_nil] at hW'
  have lt0 : ∀ y ∈ p, y.block < W.heap.size := fun y hy => by simpa using hW'.lt y (by simp [hy])
  refine (walk W (of_laid hL hsh) u0 r0 c0 s0 m0 n0 l0).mono fun e W' ⟨he, hg⟩ => ?_
  subst he
  exact ⟨_, rfl, _, _, _, [], _, [], hW', trodAll_mk1 (shut_bool Tryz.underlying4 _), trodAll_mk1 (Below.trod laidOut (by kernel_rfl) (of_decide_eq_true (by kernel_rfl)) h0k hg lt0), rfl, hg.frame _, fun h => by cases h⟩

theorem over : Rows.LexisAgainSaid :=
  OpenClaim.holds_of_cond 6 Tryz.f6 rfl rfl rfl rfl rfl rfl rfl ⟨rfl, rfl, rfl, rfl, rfl⟩ rfl rfl rfl rfl rfl (by kernel_rfl) Tryz.func6 (by kernel_rfl)
    (of_decide_eq_true (by kernel_rfl)) (by unfold Func.isWrapper; first | (rw [if_pos (by decide +kernel)]; kernel_rfl) | (rw [if_neg (by decide +kernel)]; exact ⟨rfl, rfl⟩))
    (fun os started H enc _ F0 => by rw [OpenClaim.pre_eq_preRow]; exact lifted os started H enc F0)

/-- THE STATEMENT: the tied card. -/
theorem proved : Rows.LexisAgainCardSaid :=
  Claim7.holds_tied_plain_at .later [] Rows.lexisAgainCard.laidKinds true Rows.lexisAgainCard.stood.harness false
    over (fun _ h => by cases h) (by kernel_rfl) (fun _ h => by cases h) lexisAgain_row_tie rfl ⟨rfl, rfl⟩ (by kernel_rfl) rfl
    (fun f fn hf hfn => by
      obtain rfl : f = 6 := Option.some.inj ((show Tryz.prog.funcNamed "stopwatch/stopwatchlaw05.LexisAgain" = some 6 by kernel_rfl).symm.trans hf) |>.symm
      obtain rfl : fn = Tryz.f6 := (Option.some.inj (Tryz.func6.symm.trans hfn)).symm
      exact ⟨by kernel_rfl, fun j t ht => by
        rw [Tryz.params6] at ht
        have hm : t ∈ [22] := by simpa using Array.mem_of_getElem? ht
        have hall : ([22].all fun u => !Tryz.prog.wantsStandIn u) = true := by kernel_rfl
        exact (show Tryz.prog.wantsStandIn t = false by simpa using List.all_eq_true.1 hall t hm)⟩)
    (by kernel_rfl)
#print axioms proved
end Go.Proofs.YtlcmedimgoaneaaGreatDoor.lexisAgain
