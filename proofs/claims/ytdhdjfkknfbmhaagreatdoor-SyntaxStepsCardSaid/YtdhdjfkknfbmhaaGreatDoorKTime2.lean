/- The program's Time. -/
import Derived.Test.YtdhdjfkknfbmhaaGreatDoorKTime
namespace Go.Proofs.YtdhdjfkknfbmhaaGreatDoor
open Go.RowKit

def tE (neg : Bool) (o : Option Nat) : Int × Int := match o with | none => (0, 50) | some t => if neg = true ∧ t = 0 then (0, 50) else (if neg = true then -(t : Int) else t, 0)
theorem tE_eq (l : Bs) : (timeT l, timeE l) = tE (Lib.hasPrefix l [45]) (absV (Lib.trimPrefix l [45])) := by
  unfold timeT timeE timeV tE Lib.trimPrefix Lib.hasPrefix
  cases l with
  | nil => rfl
  | cons c t =>
    by_cases h : c = 45
    · subst h
      simp only [List.head?_cons, if_true, List.tail_cons, List.isPrefixOf, beq_self_eq_true, Bool.true_and, List.length_singleton, List.drop_succ_cons, List.drop_zero]
      cases absV t with
      | none => rfl
      | some n =>
        by_cases h0 : n = 0
        · simp [h0]
        · simp [h0]
    · have h1 : ((45 : UInt8) == c) = false := by simpa using fun e : 45 = c => h e.symm
      rw [if_neg (by simpa using h)]
      simp only [List.isPrefixOf, h1, Bool.false_and, Bool.false_eq_true, if_false, false_and]
      cases absV (c :: t) with
      | none => rfl
      | some n => simp
theorem splitC_cons (c : UInt8) (k : Nat) (l : Bs) : ∃ a t, splitC c k l = a :: t := by
  cases k with
  | zero => exact ⟨_, _, rfl⟩
  | succ k => rw [splitC]; split <;> exact ⟨_, _, rfl⟩
theorem splitC_len (c : UInt8) : ∀ (k : Nat) (l : Bs), (splitC c k l).length ≤ k + 1 ∧ ∀ x ∈ splitC c k l, x.length ≤ l.length
  | 0, l => by simp [splitC]
  | k + 1, l => by
    rw [splitC]
    have h := cutB_len c l
    have ih := splitC_len c k (cutB c l).2.1
    split
    · refine ⟨by rw [List.length_cons]; omega, fun x hx => ?_⟩
      rcases List.mem_cons.1 hx with rfl | hx
      · exact h.1
      · exact Nat.le_trans (ih.2 x hx) h.2
    · refine ⟨by simp, fun x hx => ?_⟩
      rw [List.mem_singleton.1 hx]; exact Nat.le_refl _
theorem timeP_bad1 {u : Bs} (h : 3 < (splitC 58 3 (cutB 46 u).1).length ∨ ((cutB 46 u).2.2 = true ∧ isFr (cutB 46 u).2.1 = false)) : absV u = none := by
  rw [← timeP_eq, timeP, if_pos h]
theorem timeP_bad2 {u : Bs} (h : (splitC 58 3 (cutB 46 u).1).length = 1 ∧ (cutB 46 u).2.2 = false) : absV u = none := by
  rw [← timeP_eq, timeP]
  split
  · rfl
  · rfl
theorem timeP_ok {u : Bs} (h : ¬ (3 < (splitC 58 3 (cutB 46 u).1).length ∨ ((cutB 46 u).2.2 = true ∧ isFr (cutB 46 u).2.1 = false))) (h2 : ¬ ((splitC 58 3 (cutB 46 u).1).length = 1 ∧ (cutB 46 u).2.2 = false)) :
    absV u = match wsec (splitC 58 3 (cutB 46 u).1) with
    | none => none
    | some s => if 1099511627776 < s * 1000000 + val ((cutB 46 u).2.1 ++ List.replicate (6 - (cutB 46 u).2.1.length) 48) then none
      else some (s * 1000000 + val ((cutB 46 u).2.1 ++ List.replicate (6 - (cutB 46 u).2.1.length) 48)) := by
  rw [← timeP_eq, timeP, if_neg h, if_neg h2]; rfl

theorem micro_lt {l : Bs} (h6 : l.length ≤ 6) (hd : l.all isD = true) : val (l ++ List.replicate (6 - l.length) 48) < 1000000 := by
  refine val_lt 6 _ (by rw [List.length_append, List.length_replicate]; omega) ?_
  rw [List.all_append, hd, Bool.true_and, List.all_eq_true]
  intro x hx
  rw [(List.mem_replicate.1 hx).2]; decide

theorem tE_if (neg : Bool) (n : Nat) : tE neg (if 1099511627776 < n then none else some n) = if 1099511627776 < n ∨ (neg = true ∧ n = 0) then (0, 50) else (if neg = true then -(n : Int) else n, 0) := by
  by_cases h : 1099511627776 < n
  · rw [if_pos h, if_pos (Or.inl h)]; rfl
  · rw [if_neg h]
    unfold tE
    by_cases h2 : neg = true ∧ n = 0
    · simp only [if_pos h2]; rw [if_pos (Or.inr h2)]
    · have h3 : ¬ (1099511627776 < n ∨ (neg = true ∧ n = 0)) := fun h4 => h4.elim h h2
      simp only [if_neg h2]; rw [if_neg h3]

theorem tE_int (neg : Bool) (s mi : Nat) (x y : Int) (hx : x = s) (hy : y = mi) : tE neg (if 1099511627776 < s * 1000000 + mi then none else some (s * 1000000 + mi)) =
    if 1099511627776 < x * 1000000 + y ∨ (neg = true ∧ x * 1000000 + y = 0) then (0, 50) else (if neg = true then -(x * 1000000 + y) else x * 1000000 + y, 0) := by
  have h : ((s * 1000000 + mi : Nat) : Int) = x * 1000000 + y := by omega
  rw [tE_if, ← h]
  by_cases h1 : 1099511627776 < s * 1000000 + mi ∨ (neg = true ∧ s * 1000000 + mi = 0)
  · have h3 : (1099511627776 : Int) < ((s * 1000000 + mi : Nat) : Int) ∨ (neg = true ∧ ((s * 1000000 + mi : Nat) : Int) = 0) := h1.imp (fun h => by omega) (fun h => ⟨h.1, by omega⟩)
    rw [if_pos h1, if_pos h3]
  · have h3 : ¬ ((1099511627776 : Int) < ((s * 1000000 + mi : Nat) : Int) ∨ (neg = true ∧ ((s * 1000000 + mi : Nat) : Int) = 0)) := fun h2 => h1 (h2.imp (fun h => by omega) (fun h => ⟨h.1, by omega⟩))
    rw [if_neg h1, if_neg h3]

set_option maxHeartbeats 4000000 in
set_option maxRecDepth 100000 in
theorem time_any (l : Bs) (hl : l.length ≤ 1000000) (w : World) (hG : Gl w) :
    Calls Tryz.prog 116 #[.string (S l)] w fun e w' => e = .returned (.tuple #[.int .i64 (timeT l), .int .i64 (timeE l)]) ∧ Below w.heap.size w w' := by
  have HE := tE_eq l
  have HC := Lib.hid (cutPrefix_any l [45] w)
  have hul := trimP_len l [45]
  change Hid (Calls _ _ #[.string (S l), .string ⟨#[45]⟩] _ _) at HC
  have h1 : timeT l = (tE (Lib.hasPrefix l [45]) (absV (Lib.trimPrefix l [45]))).1 := by rw [← HE]
  have h2 : timeE l = (tE (Lib.hasPrefix l [45]) (absV (Lib.trimPrefix l [45]))).2 := by rw [← HE]
  rw [h1, h2]
  clear h1 h2 HE
  generalize Lib.hasPrefix l [45] = neg at *
  generalize Lib.trimPrefix l [45] = u at *
  have hcl := cutB_len 46 u
  have HC2 := Lib.hid (cut_any u 46 (by omega) w hG)
  change Hid (Calls _ _ #[.string (S u), .string ⟨#[46]⟩] _ _) at HC2
  have HSP : Hid (∀ w, Gl w → Calls Tryz.prog 155 #[.string (S (cutB 46 u).1), .string ⟨#[58]⟩, .int .i64 4] w fun e w' =>
      ∃ c, e = .returned (.slice (some ⟨w.heap.size, 0, none⟩) (splitC 58 3 (cutB 46 u).1).length c) ∧ (splitC 58 3 (cutB 46 u).1).length ≤ c ∧ c ≤ 4 ∧ Parts w' w.heap.size (splitC 58 3 (cutB 46 u).1) ∧ Below w.heap.size w w') :=
    Lib.hid fun w h => splitN_any (cutB 46 u).1 (by omega) w h
  have HFR : Hid (∀ w, Gl w → Calls Tryz.prog 156 #[.string (S (cutB 46 u).2.1)] w fun e w' => e = .returned (.bool (isFr (cutB 46 u).2.1)) ∧ Below w.heap.size w w') :=
    Lib.hid fun w h => isFraction_any _ (by omega) w h
  obtain ⟨a, t, hps⟩ := splitC_cons 58 3 (cutB 46 u).1
  have hlen := splitC_len 58 3 (cutB 46 u).1
  rw [hps] at hlen
  have HWS : Hid (t.length ≤ 2 → ∀ w, Gl w → ∀ b c, t.length + 1 ≤ c → c ≤ 4 → Parts w b (a :: t) → 12 ≤ b → Calls Tryz.prog 157 #[.slice (some ⟨b, 0, none⟩) (t.length + 1 : Nat) c] w fun e w' => e = .returned (.tuple #[(wR (a :: t)).1, (wR (a :: t)).2]) ∧ Below w.heap.size w w') :=
    Lib.hid fun ht w h b c hc hc4 hp h9 => wholeSeconds_any a t ht (fun x hx => by have := hlen.2 x hx; omega) w h b c hc hc4 hp h9
  have HMI : Hid ((cutB 46 u).2.1.length ≤ 6 → (cutB 46 u).2.1.all isD = true → ∀ w, Calls Tryz.prog 158 #[.string (S (cutB 46 u).2.1)] w fun e w' => e = .returned (.int .i64 (val ((cutB 46 u).2.1 ++ List.replicate (6 - (cutB 46 u).2.1.length) 48))) ∧ Below w.heap.size w w') :=
    Lib.hid fun h6 hd w => microseconds_any _ h6 hd w
  have HMR := Lib.hid (@micro_lt (cutB 46 u).2.1)
  have HB1 := @timeP_bad1 u
  have HB2 := @timeP_bad2 u
  have HOK := @timeP_ok u
  have hfr : isFr (cutB 46 u).2.1 = true → (cutB 46 u).2.1.length ≤ 6 ∧ (cutB 46 u).2.1.all isD = true := fun h => by
    unfold isFr at h
    simp only [Bool.and_eq_true, decide_eq_true_eq] at h
    exact ⟨h.1.2, h.2⟩
  have hno : (cutB 46 u).2.2 = false → (cutB 46 u).2.1.length ≤ 6 ∧ (cutB 46 u).2.1.all isD = true := fun h => by
    rw [cutB_nofind h]; exact ⟨by decide, rfl⟩
  rw [hps] at HSP HB1 HB2 HOK
  simp only [List.length_cons] at HSP HB1 HB2 HOK hlen
  have HGl := Lib.hid hG
  have h9 := hG.size
  clear hcl hG
  generalize val ((cutB 46 u).2.1 ++ List.replicate (6 - (cutB 46 u).2.1.length) 48) = mi at *
  generalize (cutB 46 u).2.1.length = flen at *
  generalize (cutB 46 u).2.1.all isD = fall at *
  generalize isFr (cutB 46 u).2.1 = fr at *
  generalize S (cutB 46 u).2.1 = sf at *
  generalize S (cutB 46 u).1 = sw at *
  generalize (cutB 46 u).2.2 = pt at *
  generalize hAV : absV u = av at *
  clear hAV hps
  by_cases ht : t.length ≤ 2
  · by_cases hbad : pt = true ∧ fr = false
    · obtain ⟨rfl, rfl⟩ := hbad
      rw [HB1 (Or.inr ⟨rfl, rfl⟩)]
      clear HB1 HB2 HOK hno hfr
      go_enter Tryz.func116, Tryz.ntmps116
      go_wp2_with fail
      go_at_call 114
      refine HC.out.mono ?_
      rintro e w1 ⟨rfl, rfl⟩
      go_wp2_with fail
      go_at_call 154
      refine HC2.out.mono ?_
      rintro e w2 ⟨rfl, hb2⟩
      have HG2 := Lib.hid (HGl.out.bel' hb2)
      have HBL := Lib.hid hb2; clear hb2
      go_wp2_with fail
      go_at_call 155
      refine (HSP.out _ HG2.out).mono ?_
      rintro e w3 ⟨c, rfl, hc, hc4, hp, hb3⟩
      have HP3 := Lib.hid hp
      have h93 : 12 ≤ w2.heap.size := HG2.out.size
      have HG3 := Lib.hid (HG2.out.bel' hb3)
      have HBL3 := Lib.hid (HBL.out.trans (hb3.mono HBL.out.size)); clear hb3 hp HBL
      go_wp2_with fail
      go_at_call 156
      refine (HFR.out _ HG3.out).mono ?_
      rintro e w4 ⟨rfl, hb4⟩
      have HP4 := Lib.hid (HP3.out.bel hb4 HP3.out.lt)
      have HG4 := Lib.hid (HG3.out.bel' hb4)
      have HBL4 := Lib.hid (HBL3.out.trans (hb4.mono HBL3.out.size)); clear hb4 HBL3
      go_wp2_with fail
      go_ret2
      exact ⟨rfl, HBL4.out⟩
    · by_cases hb2 : t.length + 1 = 1 ∧ pt = false
      · obtain ⟨h0, rfl⟩ := hb2
        rw [HB2 ⟨h0, rfl⟩]
        clear HB1 HB2 HOK hno hfr hbad
        go_enter Tryz.func116, Tryz.ntmps116
        go_wp2_with fail
        go_at_call 114
        refine HC.out.mono ?_
        rintro e w1 ⟨rfl, rfl⟩
        go_wp2_with fail
        go_at_call 154
        refine HC2.out.mono ?_
        rintro e w2 ⟨rfl, hb2⟩
        have HG2 := Lib.hid (HGl.out.bel' hb2)
        have HBL := Lib.hid hb2; clear hb2
        go_wp2_with fail
        go_at_call 155
        refine (HSP.out _ HG2.out).mono ?_
        rintro e w3 ⟨c, rfl, hc, hc4, hp, hb3⟩
        have HP3 := Lib.hid hp
        have h93 : 12 ≤ w2.heap.size := HG2.out.size
        have HG3 := Lib.hid (HG2.out.bel' hb3)
        have HBL3 := Lib.hid (HBL.out.trans (hb3.mono HBL.out.size)); clear hb3 hp HBL
        go_wp2_with fail
        go_ret2
        exact ⟨rfl, HBL3.out⟩
      · have HOK := HOK (by rintro (h | h); · omega
                            · exact hbad h) hb2
        have hff : flen ≤ 6 ∧ fall = true := by
          cases pt with
          | true => exact hfr (by cases fr with | true => rfl | false => exact absurd ⟨rfl, rfl⟩ hbad)
          | false => exact hno rfl
        have hfr2 : pt = true → fr = true := fun h => by
          cases fr with
          | true => rfl
          | false => exact absurd ⟨h, rfl⟩ hbad
        have HMI := Lib.hid (HMI.out hff.1 hff.2)
        have hmi := HMR.out hff.1 hff.2
        clear hfr hno HB1 HB2 hff HMR hbad
        subst HOK
        cases hws : wsec (a :: t) with
        | none =>
          have hwr : wR (a :: t) = (.int .i64 0, .bool false) := by unfold wR; rw [hws]
          rw [hwr] at HWS
          clear hws hwr HMI
          cases pt with
          | true =>
            have hfr3 := hfr2 rfl
            subst hfr3
            clear hfr2 hb2
            by_cases h1 : t.length = 0
            all_goals
              try (have h0 := List.eq_nil_of_length_eq_zero h1; subst h0; simp only [List.length_nil, Nat.zero_add] at HWS HSP ht; clear h1)
              go_enter Tryz.func116, Tryz.ntmps116
              go_wp2_with fail
              go_at_call 114
              refine HC.out.mono ?_
              rintro e w1 ⟨rfl, rfl⟩
              go_wp2_with fail
              go_at_call 154
              refine HC2.out.mono ?_
              rintro e w2 ⟨rfl, hb2⟩
              have HG2 := Lib.hid (HGl.out.bel' hb2)
              have HBL := Lib.hid hb2; clear hb2
              go_wp2_with fail
              go_at_call 155
              refine (HSP.out _ HG2.out).mono ?_
              rintro e w3 ⟨c, rfl, hc, hc4, hp, hb3⟩
              have HP3 := Lib.hid hp
              have h93 : 12 ≤ w2.heap.size := HG2.out.size
              have HG3 := Lib.hid (HG2.out.bel' hb3)
              have HBL3 := Lib.hid (HBL.out.trans (hb3.mono HBL.out.size)); clear hb3 hp HBL
              go_wp2_with fail
              go_at_call 156
              refine (HFR.out _ HG3.out).mono ?_
              rintro e w4 ⟨rfl, hb4⟩
              have HP4 := Lib.hid (HP3.out.bel hb4 HP3.out.lt)
              have HG4 := Lib.hid (HG3.out.bel' hb4)
              have HBL4 := Lib.hid (HBL3.out.trans (hb4.mono HBL3.out.size)); clear hb4 HBL3
              go_wp2_with fail
              go_at_call 157
              refine (HWS.out ht _ HG4.out _ _ (by omega) hc4 HP4.out h93).mono ?_
              rintro e w5 ⟨rfl, hb5⟩
              have HBL5 := Lib.hid (HBL4.out.trans (hb5.mono HBL4.out.size)); clear hb5 HBL4 HP4 HG4
              go_wp2_with fail
              go_ret2
              exact ⟨rfl, HBL5.out⟩
          | false =>
            clear hfr2
            have h1 : ¬ t.length = 0 := fun h => hb2 ⟨by omega, rfl⟩
            clear hb2
            go_enter Tryz.func116, Tryz.ntmps116
            go_wp2_with fail
            go_at_call 114
            refine HC.out.mono ?_
            rintro e w1 ⟨rfl, rfl⟩
            go_wp2_with fail
            go_at_call 154
            refine HC2.out.mono ?_
            rintro e w2 ⟨rfl, hb2⟩
            have HG2 := Lib.hid (HGl.out.bel' hb2)
            have HBL := Lib.hid hb2; clear hb2
            go_wp2_with fail
            go_at_call 155
            refine (HSP.out _ HG2.out).mono ?_
            rintro e w3 ⟨c, rfl, hc, hc4, hp, hb3⟩
            have HP3 := Lib.hid hp
            have h93 : 12 ≤ w2.heap.size := HG2.out.size
            have HG3 := Lib.hid (HG2.out.bel' hb3)
            have HBL3 := Lib.hid (HBL.out.trans (hb3.mono HBL.out.size)); clear hb3 hp HBL
            have HP4 := HP3
            have HG4 := HG3
            have HBL4 := HBL3
            go_wp2_with fail
            go_at_call 157
            refine (HWS.out ht _ HG4.out _ _ (by omega) hc4 HP4.out h93).mono ?_
            rintro e w5 ⟨rfl, hb5⟩
            have HBL5 := Lib.hid (HBL4.out.trans (hb5.mono HBL4.out.size)); clear hb5 HBL4 HP4 HG4
            go_wp2_with fail
            go_ret2
            exact ⟨rfl, HBL5.out⟩
        | some s =>
          have hsl := wsec_le hws (by rw [List.length_cons]; omega)
          have hwr : wR (a :: t) = (.int .i64 s, .bool true) := by unfold wR; rw [hws]
          rw [hwr] at HWS
          clear hws hwr
          obtain ⟨x, hx⟩ : ∃ x : Int, x = s := ⟨_, rfl⟩
          obtain ⟨y, hy⟩ : ∃ y : Int, y = mi := ⟨_, rfl⟩
          rw [← hx] at HWS
          rw [← hy] at HMI
          have HTE := Lib.hid (tE_int neg s mi x y hx hy)
          have hx0 : 0 ≤ x := by omega
          have hx1 : x ≤ 4000000000 := by omega
          have hy0 : 0 ≤ y := by omega
          have hy1 : y < 1000000 := by omega
          simp only
          generalize hR : tE neg (if 1099511627776 < s * 1000000 + mi then none else some (s * 1000000 + mi)) = R at *
          clear hR hx hy hmi hsl
          cases pt with
          | true =>
            have hfr3 := hfr2 rfl
            subst hfr3
            clear hfr2 hb2
            by_cases h1 : t.length = 0
            all_goals
              try (have h0 := List.eq_nil_of_length_eq_zero h1; subst h0; simp only [List.length_nil, Nat.zero_add] at HWS HSP ht; clear h1)
              go_enter Tryz.func116, Tryz.ntmps116
              go_wp2_with fail
              go_at_call 114
              refine HC.out.mono ?_
              rintro e w1 ⟨rfl, rfl⟩
              go_wp2_with fail
              go_at_call 154
              refine HC2.out.mono ?_
              rintro e w2 ⟨rfl, hb2⟩
              have HG2 := Lib.hid (HGl.out.bel' hb2)
              have HBL := Lib.hid hb2; clear hb2
              go_wp2_with fail
              go_at_call 155
              refine (HSP.out _ HG2.out).mono ?_
              rintro e w3 ⟨c, rfl, hc, hc4, hp, hb3⟩
              have HP3 := Lib.hid hp
              have h93 : 12 ≤ w2.heap.size := HG2.out.size
              have HG3 := Lib.hid (HG2.out.bel' hb3)
              have HBL3 := Lib.hid (HBL.out.trans (hb3.mono HBL.out.size)); clear hb3 hp HBL
              go_wp2_with fail
              go_at_call 156
              refine (HFR.out _ HG3.out).mono ?_
              rintro e w4 ⟨rfl, hb4⟩
              have HP4 := Lib.hid (HP3.out.bel hb4 HP3.out.lt)
              have HG4 := Lib.hid (HG3.out.bel' hb4)
              have HBL4 := Lib.hid (HBL3.out.trans (hb4.mono HBL3.out.size)); clear hb4 HBL3
              go_wp2_with fail
              go_at_call 157
              refine (HWS.out ht _ HG4.out _ _ (by omega) hc4 HP4.out h93).mono ?_
              rintro e w5 ⟨rfl, hb5⟩
              have HBL5 := Lib.hid (HBL4.out.trans (hb5.mono HBL4.out.size)); clear hb5 HBL4 HP4 HG4
              go_wp2_with fail
              go_at_call 158
              refine (HMI.out _).mono ?_
              rintro e w6 ⟨rfl, hb6⟩
              have HBL6 := Lib.hid (HBL5.out.trans (hb6.mono HBL5.out.size)); clear hb6 HBL5
              by_cases hmax : 1099511627776 < x * 1000000 + y
              · rw [if_pos (Or.inl hmax)] at HTE
                go_wp2_with fail
                go_ret2
                rw [HTE.out]
                exact ⟨rfl, HBL6.out⟩
              · cases neg with
                | true =>
                  by_cases hz : x * 1000000 + y = 0
                  · rw [if_pos (Or.inr ⟨rfl, hz⟩)] at HTE
                    have hs0 : x = 0 := by omega
                    have hm0 : y = 0 := by omega
                    subst hs0 hm0
                    go_wp2_with fail
                    go_ret2
                    rw [HTE.out]
                    exact ⟨rfl, HBL6.out⟩
                  · rw [if_neg (fun h4 => h4.elim hmax fun h => hz h.2), if_pos rfl] at HTE
                    have hzB : (x * 1000000 + y == 0) = false := beq_eq_false_iff_ne.2 hz
                    go_wp2_with fail
                    all_goals (first | (exfalso; omega) | (go_ret2; rw [HTE.out]; exact ⟨rfl, HBL6.out⟩))
                | false =>
                  rw [if_neg (fun h4 => h4.elim hmax fun h => absurd h.1 (by decide)), if_neg (by decide)] at HTE
                  go_wp2_with fail
                  go_ret2
                  rw [HTE.out]
                  exact ⟨rfl, HBL6.out⟩
          | false =>
            clear hfr2
            have h1 : ¬ t.length = 0 := fun h => hb2 ⟨by omega, rfl⟩
            clear hb2
            go_enter Tryz.func116, Tryz.ntmps116
            go_wp2_with fail
            go_at_call 114
            refine HC.out.mono ?_
            rintro e w1 ⟨rfl, rfl⟩
            go_wp2_with fail
            go_at_call 154
            refine HC2.out.mono ?_
            rintro e w2 ⟨rfl, hb2⟩
            have HG2 := Lib.hid (HGl.out.bel' hb2)
            have HBL := Lib.hid hb2; clear hb2
            go_wp2_with fail
            go_at_call 155
            refine (HSP.out _ HG2.out).mono ?_
            rintro e w3 ⟨c, rfl, hc, hc4, hp, hb3⟩
            have HP3 := Lib.hid hp
            have h93 : 12 ≤ w2.heap.size := HG2.out.size
            have HG3 := Lib.hid (HG2.out.bel' hb3)
            have HBL3 := Lib.hid (HBL.out.trans (hb3.mono HBL.out.size)); clear hb3 hp HBL
            have HP4 := HP3
            have HG4 := HG3
            have HBL4 := HBL3
            go_wp2_with fail
            go_at_call 157
            refine (HWS.out ht _ HG4.out _ _ (by omega) hc4 HP4.out h93).mono ?_
            rintro e w5 ⟨rfl, hb5⟩
            have HBL5 := Lib.hid (HBL4.out.trans (hb5.mono HBL4.out.size)); clear hb5 HBL4 HP4 HG4
            go_wp2_with fail
            go_at_call 158
            refine (HMI.out _).mono ?_
            rintro e w6 ⟨rfl, hb6⟩
            have HBL6 := Lib.hid (HBL5.out.trans (hb6.mono HBL5.out.size)); clear hb6 HBL5
            by_cases hmax : 1099511627776 < x * 1000000 + y
            · rw [if_pos (Or.inl hmax)] at HTE
              go_wp2_with fail
              go_ret2
              rw [HTE.out]
              exact ⟨rfl, HBL6.out⟩
            · cases neg with
              | true =>
                by_cases hz : x * 1000000 + y = 0
                · rw [if_pos (Or.inr ⟨rfl, hz⟩)] at HTE
                  have hs0 : x = 0 := by omega
                  have hm0 : y = 0 := by omega
                  subst hs0 hm0
                  go_wp2_with fail
                  go_ret2
                  rw [HTE.out]
                  exact ⟨rfl, HBL6.out⟩
                · rw [if_neg (fun h4 => h4.elim hmax fun h => hz h.2), if_pos rfl] at HTE
                  have hzB : (x * 1000000 + y == 0) = false := beq_eq_false_iff_ne.2 hz
                  go_wp2_with fail
                  all_goals (first | (exfalso; omega) | (go_ret2; rw [HTE.out]; exact ⟨rfl, HBL6.out⟩))
              | false =>
                rw [if_neg (fun h4 => h4.elim hmax fun h => absurd h.1 (by decide)), if_neg (by decide)] at HTE
                go_wp2_with fail
                go_ret2
                rw [HTE.out]
                exact ⟨rfl, HBL6.out⟩
  · rw [HB1 (Or.inl (by omega))]
    clear HB1 HB2 HOK hno hfr
    go_enter Tryz.func116, Tryz.ntmps116
    go_wp2_with fail
    go_at_call 114
    refine HC.out.mono ?_
    rintro e w1 ⟨rfl, rfl⟩
    go_wp2_with fail
    go_at_call 154
    refine HC2.out.mono ?_
    rintro e w2 ⟨rfl, hb2⟩
    have HG2 := Lib.hid (HGl.out.bel' hb2)
    have HBL := Lib.hid hb2; clear hb2
    go_wp2_with fail
    go_at_call 155
    refine (HSP.out _ HG2.out).mono ?_
    rintro e w3 ⟨c, rfl, hc, hc4, hp, hb3⟩
    have HP3 := Lib.hid hp
    have h93 : 12 ≤ w2.heap.size := HG2.out.size
    have HG3 := Lib.hid (HG2.out.bel' hb3)
    have HBL3 := Lib.hid (HBL.out.trans (hb3.mono HBL.out.size)); clear hb3 hp HBL
    go_wp2_with fail
    go_ret2
    exact ⟨rfl, HBL3.out⟩

theorem isTime_any (l : Bs) (hl : l.length ≤ 1000000) (w : World) (hG : Gl w) :
    Calls Tryz.prog 59 #[.string (S l)] w fun e w' => e = .returned (.bool (timeV l).isSome) ∧ Below w.heap.size w w' := by
  have HT := Lib.hid (time_any l hl w hG)
  have HE : Hid (timeE l = if (timeV l).isSome = true then 0 else 50) := Lib.hid rfl
  clear hG
  generalize (timeV l).isSome = r at *
  generalize timeE l = e5 at *
  generalize timeT l = t5 at *
  go_enter Tryz.func59, Tryz.ntmps59
  go_wp2_with fail
  go_at_call 116
  refine HT.out.mono ?_
  rintro e w1 ⟨rfl, hb⟩
  have HB := Lib.hid hb; clear hb
  go_wp2_with fail
  go_ret
  refine ⟨ret_bool ?_, HB.out⟩
  rw [HE.out]
  cases r <;> rfl
end Go.Proofs.YtdhdjfkknfbmhaaGreatDoor
