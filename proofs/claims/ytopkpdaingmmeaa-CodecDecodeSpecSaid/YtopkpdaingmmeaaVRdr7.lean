/- The specification's reader: a list. -/
import Derived.Test.YtopkpdaingmmeaaVRdr6
import Derived.Deep.RegionHeld3
namespace Go.Proofs.Ytopkpdaingmmeaa
open Go.RowKit

set_option maxHeartbeats 8000000 in
set_option maxRecDepth 100000 in
theorem refValue_list (d dd : Nat) (hdd : dd + d = 16) (ih : ∀ d', d = d' + 1 → ReadR d' (dd + 1)) (w : World) (lo rb : Nat) (p : Option Addr) (cap : Nat) (bs : List UInt8) (at' : Nat) (h : Rdr w lo rb p cap bs at' false) (hlt : at' < bs.length) (h1 : bs[at'].toNat = 3) :
    Calls Try.prog 36 #[.pointer (some ⟨rb, 0, none⟩), .int .i64 dd] w (RVal w lo rb p cap bs (rdV d (bs.drop at'))) := by
  have HRD : Hid (rdV d (bs.drop at') = match rdNum 0 0 (bs.drop (at' + 1)) with
      | none => none
      | some (u, r') => if r'.length < u then none else match d with
        | 0 => none
        | d' + 1 => match rdMany (rdV d') u r' with
          | none => none
          | some (l, r'') => some (.mk 3 0 ⟨#[]⟩ l, r'')) := Lib.hid (by
    rw [List.drop_eq_getElem_cons hlt, rdV.eq_def]; dsimp only; rw [if_neg (by omega), if_neg (by omega), if_pos h1]
    cases d with
    | zero => dsimp only; cases rdNum 0 0 (bs.drop (at' + 1)) with
      | none => rfl
      | some ur => obtain ⟨u, r⟩ := ur; dsimp only; split <;> rfl
    | succ d' => rfl)
  have HN : Hid (∀ o, Calls Try.prog 53 #[.pointer (some ⟨rb, 0, none⟩)] (w.alloc o) fun e w' => e = .returned (.int .u8 3) ∧ Rdr w' lo rb p cap bs (at' + 1) false ∧ Kept (w.alloc o) w' rb none) := Lib.hid fun o => by
    have := next_yes (w.alloc o) lo rb p cap bs at' false (h.bel ((Below.refl w.heap.size w).alloc (Nat.le_refl _) o) (Nat.le_refl _)) hlt
    rw [h1] at this
    exact this
  have hrb := h.lt
  have hlen := h.len
  clear h h1
  go_enter Try.func36, Try.ntmps36
  go_wp2_with fail
  go_at_call 53
  refine (HN.out _).mono ?_
  rintro e w1 ⟨rfl, hr1, hk1⟩
  have HC := Lib.hid (refNumber_any w1 lo rb p cap bs (at' + 1) hr1)
  have HK1 := Lib.hid ((Kept.alloc w rb none zbox).trans hk1 (.inl rfl))
  have HZ1 := Lib.hid ((Zb.new w).kept hk1 (Nat.ne_of_gt hrb))
  clear hr1 hk1 HN
  generalize rdNum 0 0 (bs.drop (at' + 1)) = o at *
  go_wp2_with fail
  go_at_call 54
  refine HC.out.mono ?_
  rintro e w2 ⟨hk2, he⟩
  have HK2 := Lib.hid (HK1.out.trans hk2 (.inl rfl))
  have HZ2 := Lib.hid (HZ1.out.kept hk2 (Nat.ne_of_gt hrb))
  obtain ⟨⟨a0, a1, a2, a3⟩, ⟨f0, f1, f2, f3⟩, hbz⟩ := HZ2.out
  have hne : ¬ w.heap.size = rb := Nat.ne_of_gt hrb
  have hne2 : ¬ rb = w.heap.size := fun e => hne e.symm
  clear hk2 HC HK1
  cases o with
  | none =>
    obtain ⟨rfl, at2, hr2⟩ := he
    have HRN : Hid (∀ j, Rdr (w2.drewN j) lo rb p cap bs at2 true) := Lib.hid fun j => hr2.same (Nat.le_refl _) fun _ _ => rfl
    have HFN : Hid (∀ j, Rdr ((w2.drewN j).setCell ⟨rb, 2, none⟩ (.bool true)) lo rb p cap bs at2 true ∧ Kept (w2.drewN j) ((w2.drewN j).setCell ⟨rb, 2, none⟩ (.bool true)) rb none) := Lib.hid fun j => (HRN.out j).failed
    have ZbN : Hid (∀ j, Zb (w2.drewN j) w.heap.size) := Lib.hid fun j => HZ2.out
    obtain ⟨_, _, q0, q1, q2, q4, q5, _, _, _, _⟩ := hr2
    generalize bs.length = len at *
    go_wp2_with fail
    go_quiet (fail)
    have HF5 := HFN.out nq
    have q6 := (HRN.out nq).c2
    have q7 := (HRN.out nq).f2
    have HZ5 := ZbN.out nq
    obtain ⟨⟨a0, a1, a2, a3⟩, ⟨f0, f1, f2, f3⟩, _⟩ := id HZ5
    have HKN : Hid (∀ j, Kept w (w2.drewN j) rb none) := Lib.hid fun j => ⟨HK2.out.os, HK2.out.tape, HK2.out.output, HK2.out.size, HK2.out.block⟩
    go_wp2_with fail
    have HC4 := wr4_cells (HZ5.kept HF5.2 (Nat.ne_of_gt hrb)) (.int .i64 0) (.int .i64 0) (.string ⟨#[]⟩) (.slice none 0 0)
    have HK4 := wr4_kept (.int .i64 0) (.int .i64 0) (.string ⟨#[]⟩) (.slice none 0 0) ((HKN.out nq).trans HF5.2 (.inl rfl)) (Nat.le_refl _)
    have HR4 := wr4_rdr (b := w.heap.size) (.int .i64 0) (.int .i64 0) (.string ⟨#[]⟩) (.slice none 0 0) HF5.1 hrb
    obtain ⟨z0, z1, z2, z3⟩ := HC4
    unfold wr4 at *
    refine bodyPost_ret (v := .agg #[.int .i64 0, .int .i64 0, .string ⟨#[]⟩, .slice none 0 0]) ?_ rfl ?_
    · simp [results, Try.results36, go_sem, z0, z1, z2, z3]
    · refine ⟨HK4, .mk 0 0 ⟨#[]⟩ [], none, 0, rfl, VIn.leaf (by unfold Fit64; omega) (by unfold Fit64; omega) (by decide), ?_⟩
      rw [HRD.out]
      exact ⟨at2, HR4⟩
  | some q =>
    obtain ⟨u, r⟩ := q
    obtain ⟨rfl, hu, at2, rfl, hr2⟩ := he
    have HR2 := Lib.hid hr2
    have HRN : Hid (∀ j, Rdr (w2.drewN j) lo rb p cap bs at2 false) := Lib.hid fun j => hr2.same (Nat.le_refl _) fun _ _ => rfl
    have HFN : Hid (∀ j, Rdr ((w2.drewN j).setCell ⟨rb, 2, none⟩ (.bool true)) lo rb p cap bs at2 true ∧ Kept (w2.drewN j) ((w2.drewN j).setCell ⟨rb, 2, none⟩ (.bool true)) rb none) := Lib.hid fun j => (HRN.out j).failed
    have ZbN : Hid (∀ j, Zb (w2.drewN j) w.heap.size) := Lib.hid fun j => HZ2.out
    have HKN : Hid (∀ j, Kept w (w2.drewN j) rb none) := Lib.hid fun j => ⟨HK2.out.os, HK2.out.tape, HK2.out.output, HK2.out.size, HK2.out.block⟩
    obtain ⟨_, _, q0, q1, q2, q4, q5, hle2, _, hroom, _⟩ := hr2
    have hdl : (bs.drop at2).length = bs.length - at2 := List.length_drop
    generalize hL : bs.length = len at *
    have hw1 : IntKind.i64.wrap ((len : Int) - (at2 : Int)) = (len : Int) - (at2 : Int) := by simp [IntKind.wrap, IntKind.bits, IntKind.signed]; omega
    have hw2 : IntKind.u64.wrap ((len : Int) - (at2 : Int)) = (len : Int) - (at2 : Int) := by rw [IntKind.wrap_u64]; omega
    by_cases hbig : len - at2 < u
    · have g1 : (len : Int) - (at2 : Int) < (u : Int) := by omega
      have HNO : Hid (rdV d (bs.drop at') = none) := Lib.hid (HRD.out.trans (if_pos (by omega)))
      go_wp2_with fail
      go_quiet (fail)
      have HF5 := HFN.out nq
      have q6 := (HRN.out nq).c2
      have q7 := (HRN.out nq).f2
      have HZ5 := ZbN.out nq
      obtain ⟨⟨a0, a1, a2, a3⟩, ⟨f0, f1, f2, f3⟩, _⟩ := id HZ5
      go_wp2_with fail
      have HC4 := wr4_cells (HZ5.kept HF5.2 (Nat.ne_of_gt hrb)) (.int .i64 0) (.int .i64 0) (.string ⟨#[]⟩) (.slice none 0 0)
      have HK4 := wr4_kept (.int .i64 0) (.int .i64 0) (.string ⟨#[]⟩) (.slice none 0 0) ((HKN.out nq).trans HF5.2 (.inl rfl)) (Nat.le_refl _)
      have HR4 := wr4_rdr (b := w.heap.size) (.int .i64 0) (.int .i64 0) (.string ⟨#[]⟩) (.slice none 0 0) HF5.1 hrb
      obtain ⟨z0, z1, z2, z3⟩ := HC4
      unfold wr4 at *
      refine bodyPost_ret (v := .agg #[.int .i64 0, .int .i64 0, .string ⟨#[]⟩, .slice none 0 0]) ?_ rfl ?_
      · simp [results, Try.results36, go_sem, z0, z1, z2, z3]
      · refine ⟨HK4, .mk 0 0 ⟨#[]⟩ [], none, 0, rfl, VIn.leaf (by unfold Fit64; omega) (by unfold Fit64; omega) (by decide), ?_⟩
        rw [HNO.out]
        exact ⟨at2, HR4⟩
    have g1 : ¬ (len : Int) - (at2 : Int) < (u : Int) := by omega
    cases d with
    | zero =>
      have g2 : (dd : Int) = 16 := by omega
      have HNO : Hid (rdV 0 (bs.drop at') = none) := Lib.hid (HRD.out.trans (if_neg (by omega)))
      go_wp2_with fail
      go_quiet (fail)
      have HF5 := HFN.out nq
      have q6 := (HRN.out nq).c2
      have q7 := (HRN.out nq).f2
      have HZ5 := ZbN.out nq
      obtain ⟨⟨a0, a1, a2, a3⟩, ⟨f0, f1, f2, f3⟩, _⟩ := id HZ5
      go_wp2_with fail
      have HC4 := wr4_cells (HZ5.kept HF5.2 (Nat.ne_of_gt hrb)) (.int .i64 0) (.int .i64 0) (.string ⟨#[]⟩) (.slice none 0 0)
      have HK4 := wr4_kept (.int .i64 0) (.int .i64 0) (.string ⟨#[]⟩) (.slice none 0 0) ((HKN.out nq).trans HF5.2 (.inl rfl)) (Nat.le_refl _)
      have HR4 := wr4_rdr (b := w.heap.size) (.int .i64 0) (.int .i64 0) (.string ⟨#[]⟩) (.slice none 0 0) HF5.1 hrb
      obtain ⟨z0, z1, z2, z3⟩ := HC4
      unfold wr4 at *
      refine bodyPost_ret (v := .agg #[.int .i64 0, .int .i64 0, .string ⟨#[]⟩, .slice none 0 0]) ?_ rfl ?_
      · simp [results, Try.results36, go_sem, z0, z1, z2, z3]
      · refine ⟨HK4, .mk 0 0 ⟨#[]⟩ [], none, 0, rfl, VIn.leaf (by unfold Fit64; omega) (by unfold Fit64; omega) (by decide), ?_⟩
        rw [HNO.out]
        exact ⟨at2, HR4⟩
    | succ d' =>
      have g2 : ¬ (dd : Int) = 16 := by omega
      have HR : Hid (rdV (d' + 1) (bs.drop at') = match rdMany (rdV d') u (bs.drop at2) with
          | none => none
          | some (l, r'') => some (.mk 3 0 ⟨#[]⟩ l, r'')) := Lib.hid (HRD.out.trans (if_neg (by omega)))
      have HI := Lib.hid (ih d' rfl)
      have hul : u ≤ 1000000000000 := by omega
      clear HRD ih HFN
      go_wp2_with fail
      go_quiet (fail)
      have b1 : decide ((len : Int) - (at2 : Int) < (u : Int)) = false := decide_eq_false (by omega)
      have b2 : ((dd : Int) == 16) = false := beq_eq_false_iff_ne.2 (by omega)
      rw [b1, b2, Bool.or_false]
      clear b1 b2
      have HR3 := Lib.hid (HRN.out nq)
      have HK3 := Lib.hid (HKN.out nq)
      have HZ3 := Lib.hid (ZbN.out nq)
      clear HRN HKN ZbN HR2 HK2 HZ2 q0 q1 q2 q4 q5 a0 a1 a2 a3 f0 f1 f2 f3 hbz
      generalize w2.drewN nq = w3 at *
      have HE : Hid (Els w lo rb p cap bs w3.heap.size (.slice none 0 0) [] at2 false (w3.alloc (.cells #[.int .i64 3, .int .i64 0, .string ⟨#[]⟩, .slice none 0 0] 24))) := Lib.hid (Els.start HR3.out HK3.out HZ3.out hrb)
      have HT : Hid (Todo d' u (bs.drop at2) [] 0 bs at2 false) := Lib.hid (Todo.start d' u bs at2)
      clear HR3 HK3 HZ3
      go_wp2_with fail
      generalize w3.heap.size = vb at *
      go_loopw [9] (fun i wr => ∃ (j : Nat) (es : List El) (at3 : Nat) (bad : Bool) (val : Value), i = .int .u64 j ∧ j ≤ u ∧ es.length = j ∧ Hid (Els w lo rb p cap bs vb val es at3 bad wr) ∧ Hid (Todo d' u (bs.drop at2) es j bs at3 bad)) (fun i _ => u - (intOf i).toNat)
      case atStart => exact ⟨0, [], at2, false, _, rfl, Nat.zero_le _, rfl, Lib.hid HE.out, Lib.hid HT.out⟩
      case round =>
        obtain ⟨j, es, at3, bad, val, rfl, hj, hes, HE, HT⟩ := hrel
        have k2 := HE.out.rdr.c2
        have v0 := HE.out.c0
        have v1 := HE.out.c1
        have v2 := HE.out.c2
        have v3 := HE.out.c3
        have vf := HE.out.fz
        obtain ⟨⟨a0, a1, a2, a3⟩, ⟨f0, f1, f2, f3⟩, hbz⟩ := HE.out.zb
        by_cases hbad : bad = true
        · subst hbad
          have HNO : Hid (rdV (d' + 1) (bs.drop at') = none) := Lib.hid (by rw [HR.out, HT.out.gone])
          obtain ⟨pv, cv, hval, hv⟩ := HE.out.own.reads (by omega) (k := 3) (n := 0) (s := ⟨#[]⟩) ⟨by decide, by decide⟩ ⟨by decide, by decide⟩ (by decide)
          rw [hes] at hval
          subst hval
          have HV := Lib.hid hv
          clear hv
          clear HT HR
          go_wp2_with fail
          all_goals
            have HC4 := wr4_cells HE.out.zb (.int .i64 3) (.int .i64 0) (.string ⟨#[]⟩) (.slice pv j cv)
            have HK4 := wr4_kept (.int .i64 3) (.int .i64 0) (.string ⟨#[]⟩) (.slice pv j cv) HE.out.kept (Nat.le_refl _)
            have HR4 := wr4_rdr (b := w.heap.size) (.int .i64 3) (.int .i64 0) (.string ⟨#[]⟩) (.slice pv j cv) HE.out.rdr hrb
            have HV4 := wr4_in HV.out (Nat.lt_succ_of_lt HE.out.hz) (.int .i64 3) (.int .i64 0) (.string ⟨#[]⟩) (.slice pv j cv)
            obtain ⟨z0, z1, z2, z3⟩ := HC4
            unfold wr4 at *
            refine bodyPost_ret (v := .agg #[.int .i64 3, .int .i64 0, .string ⟨#[]⟩, .slice pv j cv]) ?_ rfl ?_
            · simp [results, Try.results36, go_sem, z0, z1, z2, z3]
            · refine ⟨HK4, .mk 3 0 ⟨#[]⟩ (es.map (·.1)), pv, cv, by show _ = Ending.returned (.agg #[.int .i64 3, .int .i64 0, .string ⟨#[]⟩, .slice pv (es.map (·.1)).length cv]); rw [List.length_map, hes], HV4, ?_⟩
              rw [HNO.out]
              exact ⟨_, HR4⟩
        obtain rfl : bad = false := by simpa using hbad
        by_cases hju : j < u
        · have HC : Hid (Calls Try.prog 36 #[.pointer (some ⟨rb, 0, none⟩), .int .i64 ((dd : Int) + 1)] wr.drew (RVal wr.drew lo rb p cap bs (rdV d' (bs.drop at3)))) := Lib.hid (HI.out wr.drew lo rb p cap bs at3 HE.out.rdr.drew)
          have HED := Lib.hid HE.out.drew
          have g4 : (j : Int) < (u : Int) := by omega
          have w4 : IntKind.u64.wrap ((j : Int) + 1) = (j : Int) + 1 := by rw [IntKind.wrap_u64]; omega
          have w5 : IntKind.i64.wrap ((dd : Int) + 1) = (dd : Int) + 1 := by rw [IntKind.wrap_i64]; omega
          have hes2 : es.length ≤ 2000000000000 := by omega
          clear HR HI
          go_wp2_with fail
          go_region_law (first
            | (go_simp; go_at_call 36; (with_reducible refine HC.out.mono ?_); rintro e w6 ⟨hk6, v6, q6, c6, rfl, hv6, hr6⟩; have k63 := (HED.out.beside hk6).1; have k65 := HED.out.beside' hk6; unfold vV)
            | (refine step_pushV rfl _ _ rfl (vb + 1) val es (HED.out.own.kept hk6 (by have := HED.out.hrb; have := HED.out.hz; omega)) rfl v6 q6 c6 _ rfl (HED.out.elem hv6) hes2 (by have := HED.out.lt; have := hk6.size; omega) ?_; intro g cap' w7 hown7 hgrow7; have k73 := (HED.out.behind hk6 hgrow7).1; have k74 := (HED.out.behind hk6 hgrow7).2))
          all_goals
            rw [hes] at hown7
            obtain ⟨at4, bad4, hE4, hT4⟩ := HED.out.round HT.out hju hk6 hr6 hown7 hgrow7
            have HE4 := Lib.hid hE4
            have HT4 := Lib.hid hT4
            clear hE4 hT4 hown7 hgrow7 hr6 hv6 hk6 HE HT HED HC k63 k65 k73 k74 k2 v0 v1 v2 v3 vf a0 a1 a2 a3 f0 f1 f2 f3 hbz
            go_wp2_with fail
            go_roundw
            case rel => exact ⟨j + 1, _, at4, bad4, _, by go_num, by omega, by simp [hes], HE4, HT4⟩
            case measure => simp [intOf]; omega
        · obtain rfl : j = u := by omega
          have HYES : Hid (rdV (d' + 1) (bs.drop at') = some (.mk 3 0 ⟨#[]⟩ (es.map (·.1)), bs.drop at3)) := Lib.hid (by rw [HR.out, HT.out.fin])
          obtain ⟨pv, cv, hval, hv⟩ := HE.out.own.reads (by omega) (k := 3) (n := 0) (s := ⟨#[]⟩) ⟨by decide, by decide⟩ ⟨by decide, by decide⟩ (by decide)
          rw [hes] at hval
          subst hval
          have HV := Lib.hid hv
          clear hv
          clear HT HR
          go_wp2_with fail
          have HC4 := wr4_cells HE.out.zb (.int .i64 3) (.int .i64 0) (.string ⟨#[]⟩) (.slice pv j cv)
          have HK4 := wr4_kept (.int .i64 3) (.int .i64 0) (.string ⟨#[]⟩) (.slice pv j cv) HE.out.kept (Nat.le_refl _)
          have HR4 := wr4_rdr (b := w.heap.size) (.int .i64 3) (.int .i64 0) (.string ⟨#[]⟩) (.slice pv j cv) HE.out.rdr hrb
          have HV4 := wr4_in HV.out (Nat.lt_succ_of_lt HE.out.hz) (.int .i64 3) (.int .i64 0) (.string ⟨#[]⟩) (.slice pv j cv)
          obtain ⟨z0, z1, z2, z3⟩ := HC4
          unfold wr4 at *
          refine bodyPost_ret (v := .agg #[.int .i64 3, .int .i64 0, .string ⟨#[]⟩, .slice pv j cv]) ?_ rfl ?_
          · simp [results, Try.results36, go_sem, z0, z1, z2, z3]
          · refine ⟨HK4, .mk 3 0 ⟨#[]⟩ (es.map (·.1)), pv, cv, by show _ = Ending.returned (.agg #[.int .i64 3, .int .i64 0, .string ⟨#[]⟩, .slice pv (es.map (·.1)).length cv]); rw [List.length_map, hes], HV4, ?_⟩
            rw [HYES.out]
            exact ⟨rfl, _, rfl, HR4⟩
end Go.Proofs.Ytopkpdaingmmeaa
