/- LexisBack: the law returns true for all arguments. -/
import Derived.Test.YtlcmedimgoaneaaGreatDoorKLaid
import Derived.Test.YtlcmedimgoaneaaGreatDoorKSane
import Derived.Test.YtlcmedimgoaneaaGreatDoorKOpen
import Derived.Test.YtlcmedimgoaneaaGreatDoorKAlike
import Derived.Laws.IdiomStrings
import Derived.Test.YtlcmedimgoaneaaGreatDoorTie
import Derived.Test.YtlcmedimgoaneaaGreatDoorCards
import Derived.Deep.DeepHandedRow
import Derived.LaidMore
import Derived.LaidLaws
import Derived.Lay
import Derived.SevenTiedAt
import Derived.OpenShut
import Derived.ShutString
import Derived.Deep.Light
namespace Go.Proofs.YtlcmedimgoaneaaGreatDoor.lexisBack
open Go.ChangeShapes Go.WideShapes Go.ChangeAt Go.RowKit Go.ChangeMaps

theorem own : ownKnob Tryz.prog.godebug = none := by kernel_rfl

theorem dec_last (L : List Tok) (h : L ≠ []) : ∃ l z, L = l ++ [z] := ⟨L.dropLast, L.getLast h, (List.dropLast_concat_getLast h).symm⟩
theorem jE_cases (l : List Tok) (z : Tok) : (jE l z = 0 ∧ z.k = 6 ∧ z.t = [] ∧ okI l = true ∧ (jt l).length ≤ 65536 ∧ jB l z = jt l) ∨ ((jE l z = 1 ∨ jE l z = 2) ∧ jB l z = []) := by
  by_cases h : jE l z = 0
  · left
    have h0 := h
    unfold jE at h
    split at h
    · rename_i h1
      split at h
      · rename_i h2
        split at h
        · cases h
        · rename_i h3
          exact ⟨h0, h1.1, h1.2, h2, by omega, by unfold jB; rw [if_pos h0]⟩
      · cases h
    · cases h
  · right
    refine ⟨?_, by unfold jB; rw [if_neg h]⟩
    unfold jE at h ⊢
    split at h
    · rename_i h1
      rw [if_pos h1]
      split at h
      · rename_i h2
        rw [if_pos h2]
        split at h
        · rename_i h3; rw [if_pos h3]; exact Or.inr rfl
        · exact absurd rfl h
      · rename_i h2; rw [if_neg h2]; exact Or.inl rfl
    · rename_i h1; rw [if_neg h1]; exact Or.inl rfl
set_option maxHeartbeats 4000000 in
set_option maxRecDepth 100000 in
theorem walk (w : World) (hG : Gl w) (L : List Tok) (r0 : Option Addr) (c0 : Nat) (s0 : TAt w 0 r0 L) (m0 : L.length ≤ c0) (n0 : c0 ≤ 9223372036854775807) :
    Calls Tryz.prog 5 #[.slice r0 L.length c0] w fun e w' => e = .returned (.bool true) ∧ Below w.heap.size w w' := by
  have HG := Lib.hid hG
  have HS := Lib.hid (sane_any w hG)
  clear hG
  have HF : Hid (∀ w1, Below w.heap.size w w1 → Calls Tryz.prog 16 #[.slice r0 L.length c0] w1 fun e w' => e = .returned (.bool (decide (sumT L ≤ 3000))) ∧ Below w1.heap.size w1 w') := Lib.hid fun w1 hb => few_any r0 c0 L w1 0 (s0.bel hb (Nat.le_refl _))
  by_cases hfew : sumT L ≤ 3000
  · rw [decide_eq_true hfew] at HF
    by_cases hL : L = []
    · subst hL
      clear s0 m0
      rw [List.length_nil] at *
      go_enter Tryz.func5, Tryz.ntmps5
      go_wp2_with fail
      go_at_call 11
      refine HS.out.mono ?_
      rintro e w1 ⟨rfl, hb'⟩
      have HB1 := Lib.hid hb'; clear hb'
      go_wp2_with fail
      go_at_call 16
      refine (HF.out _ HB1.out).mono ?_
      rintro e w2 ⟨rfl, hb'⟩
      have HB2 := Lib.hid (HB1.out.trans (hb'.mono HB1.out.size)); clear hb'
      go_wp2_with fail
      go_at_call 17
      refine (join0_any _ _ _).mono ?_
      rintro e w3 ⟨rfl, hb'⟩
      have HB3 := Lib.hid (HB2.out.trans (hb'.mono HB2.out.size)); clear hb'
      go_wp2_with fail
      go_ret
      exact ⟨rfl, HB3.out⟩
    · obtain ⟨l, z, rfl⟩ := dec_last L hL
      obtain ⟨hlen, hts⟩ := sumT_len (l ++ [z])
      have hll : l.length + 1 ≤ 3000 := by rw [List.length_append, List.length_singleton] at hlen; omega
      have HJ : Hid (∀ w1, Below w.heap.size w w1 → Calls Tryz.prog 17 #[.slice r0 (l.length + 1 : Nat) c0] w1 fun e w' => Below w1.heap.size w1 w' ∧
          ∃ q d, e = .returned (.tuple #[.slice q (jB l z).length d, .int .i64 (jE l z)]) ∧ BAt w' w1.heap.size q (jB l z) ∧ Row w' w1.heap.size (.slice q (jB l z).length d) (jB l z)) := Lib.hid fun w1 hb => by
        refine (join_any l z (by omega) (fun x hx => by have := hts x hx; omega) w1 (HG.out.bel' hb) 0 r0 c0 (by rw [List.length_append, List.length_singleton] at m0; exact m0) n0 (s0.bel hb (Nat.le_refl _))).mono ?_
        rintro e w2 ⟨hb2, v, rfl, hr⟩
        obtain ⟨q, d, rfl, hq⟩ := hr.reads
        exact ⟨hb2, q, d, rfl, hq, hr⟩
      rw [List.length_append, List.length_singleton] at HF m0 ⊢
      rcases jE_cases l z with ⟨hE, hzk, hzt, hok, hjl, hB⟩ | ⟨hE, hB⟩
      · rw [hE, hB] at HJ
        obtain ⟨M0, e1, hok2, hjt2, hMl, hbad, hkt⟩ := tokens_back l hok
        obtain ⟨hsm1, hsm2⟩ := tokens_small (jt l)
        have HT2 : Hid (∀ w1 B q d, Below w.heap.size w w1 → BAt w1 B q (jt l) → Calls Tryz.prog 12 #[.slice q (jt l).length d] w1 fun e w' => Below w1.heap.size w1 w' ∧
            ∃ p1 c1 q1 d1, e = .returned (.tuple #[.slice p1 (M0.length + 1 : Nat) c1, .slice q1 0 d1, .int .i64 0]) ∧ TAt w' w1.heap.size p1 (M0.map Tk.tok ++ [⟨6, [], (jt l).length⟩]) ∧ M0.length + 1 ≤ c1 ∧ c1 ≤ 9223372036854775807) := Lib.hid fun w1 B q d hb hq => by
          refine (tokens_ok _ (by omega) w1 (HG.out.bel' hb) B q d hq).mono ?_
          rintro e w2 ⟨hb2, v1, v2, rfl, ht, hp⟩
          obtain ⟨p1, c1, hv, hT, hc, hm⟩ := reads_tokens (by omega) ht
          rw [hbad] at hp
          obtain ⟨q1, d1, hv2, -, -, -⟩ := hp.reads
          subst hv hv2
          rw [e1] at hT hc ⊢
          rw [List.length_append, List.length_singleton] at hc ⊢
          exact ⟨hb2, p1, c1, q1, d1, rfl, by simpa [Tk.tok] using hT, hc, hm⟩
        have hMt : ∀ x ∈ M0.map Tk.tok ++ [(⟨6, [], (jt l).length⟩ : Tok)], x.t.length ≤ 100000 := by
          intro x hx
          rcases List.mem_append.1 hx with h | h
          · obtain ⟨y, hy, rfl⟩ := List.mem_map.1 h
            have := hsm2 y (by rw [e1]; simp [hy])
            show y.t.length ≤ _
            omega
          · rw [List.mem_singleton.1 h]; simp
        have hjE : jE (M0.map Tk.tok) ⟨6, [], (jt l).length⟩ = 0 ∧ jB (M0.map Tk.tok) ⟨6, [], (jt l).length⟩ = jt l := by
          have : jE (M0.map Tk.tok) ⟨6, [], (jt l).length⟩ = 0 := by
            unfold jE
            rw [if_pos ⟨rfl, rfl⟩, if_pos hok2, hjt2, if_neg (by omega)]
          exact ⟨this, by unfold jB; rw [if_pos this, hjt2]⟩
        have HJ2 : Hid (∀ w1 B p1 c1, Below w.heap.size w w1 → TAt w1 B p1 (M0.map Tk.tok ++ [⟨6, [], (jt l).length⟩]) → M0.length + 1 ≤ c1 → c1 ≤ 9223372036854775807 → Calls Tryz.prog 17 #[.slice p1 (M0.length + 1 : Nat) c1] w1 fun e w' => Below w1.heap.size w1 w' ∧
            ∃ q d, e = .returned (.tuple #[.slice q (jt l).length d, .int .i64 0]) ∧ Row w' w1.heap.size (.slice q (jt l).length d) (jt l)) := Lib.hid fun w1 B p1 c1 hb hT hc hm => by
          have := join_any (M0.map Tk.tok) ⟨6, [], (jt l).length⟩ (by rw [List.length_map]; omega) hMt w1 (HG.out.bel' hb) B p1 c1 (by rw [List.length_map]; exact hc) hm hT
          rw [List.length_map, hjE.1, hjE.2] at this
          refine this.mono ?_
          rintro e w2 ⟨hb2, v, rfl, hr⟩
          obtain ⟨q, d, rfl, hq⟩ := hr.reads
          exact ⟨hb2, q, d, rfl, hr⟩
        have HA : Hid (∀ w1 p2 c2 B, Below w.heap.size w w1 → TAt w1 B p2 (M0.map Tk.tok ++ [⟨6, [], (jt l).length⟩]) → Calls Tryz.prog 21 #[.slice r0 (l.length + 1 : Nat) c0, .slice p2 (M0.length + 1 : Nat) c2] w1 fun e w' => e = .returned (.bool true) ∧ Below w1.heap.size w1 w') := Lib.hid fun w1 p2 c2 B hb h2 => by
          have := alike_any r0 p2 c0 c2 _ _ w1 0 B (s0.bel hb (Nat.le_refl _)) h2
          rw [List.length_append, List.length_singleton, List.length_append, List.length_singleton, List.length_map, decide_eq_true] at this
          · exact this
          · rw [e1, List.map_append] at hkt
            rw [List.map_append, List.map_append, map_ktT, (List.append_inj' hkt rfl).1]
            simp [ktT, hzk, hzt]
        have hjs := S_size (jt l)
        clear e1 hok hok2 hjt2 hMl hbad hkt hsm1 hsm2 hMt hjE s0 hts hlen hE hB hzk hzt hL hfew
        generalize M0.map Tk.tok ++ [(⟨6, [], (jt l).length⟩ : Tok)] = Ma at *
        generalize M0.length + 1 = mn at *
        generalize jt l = jl at *
        go_enter Tryz.func5, Tryz.ntmps5
        go_wp2_with fail
        go_at_call 11
        refine HS.out.mono ?_
        rintro e w1 ⟨rfl, hb'⟩
        have HB1 := Lib.hid hb'; clear hb'
        go_wp2_with fail
        go_at_call 16
        refine (HF.out _ HB1.out).mono ?_
        rintro e w2 ⟨rfl, hb'⟩
        have HB2 := Lib.hid (HB1.out.trans (hb'.mono HB1.out.size)); clear hb'
        go_wp2_with fail
        go_at_call 17
        refine (HJ.out _ HB2.out).mono ?_
        rintro e w3 ⟨hb', q, d, rfl, hq, hr⟩
        have HQ := Lib.hid hq; clear hq
        have HR := Lib.hid hr; clear hr
        have HB3 := Lib.hid (HB2.out.trans (hb'.mono HB2.out.size)); clear hb'
        go_wp2_with fail
        go_at_call 12
        refine (HT2.out _ _ _ _ HB3.out HQ.out).mono ?_
        rintro e w4 ⟨hb', p2, c2, q1, d1, rfl, hMa, hc2, hm2⟩
        have HMA := Lib.hid hMa; clear hMa
        have HR := Lib.hid (HR.out.bel hb' (Nat.le_refl _))
        have HB4 := Lib.hid (HB3.out.trans (hb'.mono HB3.out.size)); clear hb'
        go_wp2_with fail
        go_at_call 17
        refine (HJ2.out _ _ _ _ HB4.out HMA.out hc2 hm2).mono ?_
        rintro e w5 ⟨hb', q2, d2, rfl, hr2⟩
        have HR2 := Lib.hid hr2; clear hr2
        have HMA := Lib.hid (HMA.out.bel hb' (Nat.le_refl _))
        have HR := Lib.hid (HR.out.bel hb' (Nat.le_refl _))
        have HB5 := Lib.hid (HB4.out.trans (hb'.mono HB4.out.size)); clear hb'
        go_wp2_with fail
        go_at_call 21
        refine (HA.out _ _ _ _ HB5.out HMA.out).mono ?_
        rintro e w6 ⟨rfl, hb'⟩
        have hcv1 := strRow (HR.out.bel hb' (Nat.le_refl _))
        have hcv2 := strRow (HR2.out.bel hb' (Nat.le_refl _))
        have HB6 := Lib.hid (HB5.out.trans (hb'.mono HB5.out.size)); clear hb'
        go_wp2_with fail
        go_ret
        exact ⟨rfl, HB6.out⟩
      · rw [hB] at HJ
        generalize jE l z = je at *
        clear s0 hts hlen hB hL hfew
        rw [List.length_nil] at HJ
        rcases hE with rfl | rfl
        all_goals
          go_enter Tryz.func5, Tryz.ntmps5
          go_wp2_with fail
          go_at_call 11
          refine HS.out.mono ?_
          rintro e w1 ⟨rfl, hb'⟩
          have HB1 := Lib.hid hb'; clear hb'
          go_wp2_with fail
          go_at_call 16
          refine (HF.out _ HB1.out).mono ?_
          rintro e w2 ⟨rfl, hb'⟩
          have HB2 := Lib.hid (HB1.out.trans (hb'.mono HB1.out.size)); clear hb'
          go_wp2_with fail
          go_at_call 17
          refine (HJ.out _ HB2.out).mono ?_
          rintro e w3 ⟨hb', q, d, rfl, -, -⟩
          have HB3 := Lib.hid (HB2.out.trans (hb'.mono HB2.out.size)); clear hb'
          go_wp2_with fail
          go_ret
          exact ⟨rfl, HB3.out⟩
  · rw [decide_eq_false hfew] at HF
    clear s0 m0 hfew
    generalize L.length = n at *
    go_enter Tryz.func5, Tryz.ntmps5
    go_wp2_with fail
    go_at_call 11
    refine HS.out.mono ?_
    rintro e w1 ⟨rfl, hb'⟩
    have HB1 := Lib.hid hb'; clear hb'
    go_wp2_with fail
    go_at_call 16
    refine (HF.out _ HB1.out).mono ?_
    rintro e w2 ⟨rfl, hb'⟩
    have HB2 := Lib.hid (HB1.out.trans (hb'.mono HB1.out.size)); clear hb'
    go_wp2_with fail
    go_ret
    exact ⟨rfl, HB2.out⟩


theorem witness (os : Os) {H : Type} (enc : TypeId × Value → H) :
    ∃ (w : World) (tape : Tape) (i : Input), w.os = os ∧ (w.forCall tape i).Shaped Tryz.checked.prog ∧ i.vars = [] ∧ Input.okWide Tryz.checked.prog (w.forCall tape i) .any w.heap.size 5 i ∧
      ((Rows.lexisBackSpec.pre enc Tryz.checked.prog Tryz.f5 Rows.lexisBackRow.domain false (w.forCall tape i).memory i.args ∧ laidMetH Tryz.prog Rows.lexisBackRow.laid (w.forCall tape i).memory) ∧ sizedMet enc Tryz.checked.prog Tryz.f5 (OpenSpec.ofChange Rows.lexisBackSpec) false (w.forCall tape i).memory i.args) ∧ ({ modest := false } : Assume).holds Tryz.checked.prog (lone (Frame.enter Tryz.checked.prog 5 i.args .normal) [] (w.forCall tape i)) :=
  ChangeSpec.witness_shaped (enc := enc) (C := Tryz.checked) (os := os) (X := fun w _ => laidMetH Tryz.prog Rows.lexisBackRow.laid w) false (World.laidAll Tryz.prog os Rows.lexisBackRow.laid) #[.slice none 0 0] 8 (World.laidAll_os _ _ _)
    (World.shaped_of_ZipB (by kernel_rfl) (by kernel_rfl)) (by kernel_rfl) (by kernel_rfl) (by kernel_rfl)
    (by rw [MakeChecks.laidMetH_plain _ _ _ (by kernel_rfl)]; exact laidMet_laidAll _ (by kernel_rfl) (by kernel_rfl))

set_option maxHeartbeats 1000000 in
set_option maxRecDepth 100000 in
theorem lifted (os : Os) (started : os.Started) (H : Type) (enc : TypeId × Value → H) (F : Stop.Interp) :
    ReturnsInHanded {} Tryz.checked os 5 .any ((OpenSpec.ofChange Rows.lexisBackSpec).preRow enc Tryz.prog Tryz.f5 Rows.lexisBackRow.domain false Rows.lexisBackRow.laid)
      (((OpenSpec.ofChange Rows.lexisBackSpec).at F).post enc Tryz.prog Tryz.f5 false true false false) := by
  refine returnsInHanded_of_row (C := Tryz.checked) (s := OpenSpec.ofChange Rows.lexisBackSpec) own started (by kernel_rfl) Tryz.func5 (witness os enc) ?_
  intro W base args ds gs before hval0 hW _ _ hsz0 hL hsh _
  have hsz : (DataW.weightsEach Tryz.prog (Tryz.f5.params.toList ++ (OpenSpec.ofChange Rows.lexisBackSpec).bare.plain.varTypes Tryz.prog) (ds ++ gs)).all (· ≤ reachBytes) = true := hsz0
  clear hsz0
  have hval : ∀ (j : Nat) t v, Tryz.f5.params[j]? = some t → args[j]? = some v → Value.okWide Tryz.prog W .any base t v := hval0
  have hW' := hW
  obtain ⟨p, q, hA0, hV0, rfl, hfz, hnd⟩ := hW
  have hA : DataW.TrodAll enc Tryz.prog W 0 (fun _ => true) true Tryz.f5.params.toList args.toList ds p := hA0
  have hV : DataW.TrodVars enc Tryz.prog W (fun _ => true) [] gs q := hV0
  rw [Tryz.params5] at hA hval hsz
  obtain ⟨v0, d0, rfl, rfl, h0⟩ := trodAll_one hA
  obtain ⟨rfl, rfl⟩ := trodVars_none hV
  have h0k := h0
  have sz0 : ∀ n ∈ d0.weights Tryz.prog 24, n ≤ reachBytes := fun n hn => by
    have := List.all_eq_true.1 hsz n (DataW.weights_mem_each (j := 0) (t := 24) (d := d0) rfl rfl n hn)
    simpa using this
  obtain ⟨u0, r0, c0, rfl, s0, m0, n0⟩ := open_tokens (hval 0 24 v0 rfl rfl) h0 sz0
  clear hA0 hV0 hval0
  simp only [List.append_nil] at hW'
  have lt0 : ∀ y ∈ p, y.block < W.heap.size := fun y hy => by simpa using hW'.lt y (by simp [hy])
  refine (walk W (of_laid hL hsh) u0 r0 c0 s0 m0 n0).mono fun e W' ⟨he, hg⟩ => ?_
  subst he
  exact ⟨_, rfl, _, _, _, [], _, [], hW', trodAll_mk1 (shut_bool Tryz.underlying4 _), trodAll_mk1 (Below.trod laidOut (by kernel_rfl) (of_decide_eq_true (by kernel_rfl)) h0k hg lt0), rfl, hg.frame _, fun h => by cases h⟩

theorem over : Rows.LexisBackSaid :=
  OpenClaim.holds_of_cond 5 Tryz.f5 rfl rfl rfl rfl rfl rfl rfl ⟨rfl, rfl, rfl, rfl, rfl⟩ rfl rfl rfl rfl rfl (by kernel_rfl) Tryz.func5 (by kernel_rfl)
    (of_decide_eq_true (by kernel_rfl)) (by unfold Func.isWrapper; first | (rw [if_pos (by decide +kernel)]; kernel_rfl) | (rw [if_neg (by decide +kernel)]; exact ⟨rfl, rfl⟩))
    (fun os started H enc _ F0 => by rw [OpenClaim.pre_eq_preRow]; exact lifted os started H enc F0)

/-- THE STATEMENT: the tied card. -/
theorem proved : Rows.LexisBackCardSaid :=
  Claim7.holds_tied_plain_at .later [] Rows.lexisBackCard.laidKinds true Rows.lexisBackCard.stood.harness false
    over (fun _ h => by cases h) (by kernel_rfl) (fun _ h => by cases h) lexisBack_row_tie rfl ⟨rfl, rfl⟩ (by kernel_rfl) rfl
    (fun f fn hf hfn => by
      obtain rfl : f = 5 := Option.some.inj ((show Tryz.prog.funcNamed "stopwatch/stopwatchlaw05.LexisBack" = some 5 by kernel_rfl).symm.trans hf) |>.symm
      obtain rfl : fn = Tryz.f5 := (Option.some.inj (Tryz.func5.symm.trans hfn)).symm
      exact ⟨by kernel_rfl, fun j t ht => by
        rw [Tryz.params5] at ht
        have hm : t ∈ [24] := by simpa using Array.mem_of_getElem? ht
        have hall : ([24].all fun u => !Tryz.prog.wantsStandIn u) = true := by kernel_rfl
        exact (show Tryz.prog.wantsStandIn t = false by simpa using List.all_eq_true.1 hall t hm)⟩)
    (by kernel_rfl)
#print axioms proved
end Go.Proofs.YtlcmedimgoaneaaGreatDoor.lexisBack
