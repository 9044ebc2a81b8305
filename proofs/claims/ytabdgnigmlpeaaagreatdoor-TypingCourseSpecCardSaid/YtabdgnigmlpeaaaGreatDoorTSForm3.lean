/- stepForm, of all steps. -/
import Derived.Test.YtabdgnigmlpeaaaGreatDoorTSForm2
namespace Go.Proofs.YtabdgnigmlpeaaaGreatDoor
open Go.RowKit

set_option maxHeartbeats 4000000 in
set_option maxRecDepth 100000 in
/-- A step that is neither: no kind of step, or a field that its kind does not use. -/
theorem sform_mis (k b : Int) (c : Cd) (th el : List St) (x : Loc) (W : World) (h1 : ¬(k = 1 ∧ noB c = true ∧ th = [] ∧ el = [])) (h2 : ¬(k = 2 ∧ b = 0)) (_ : th.length ≤ 6000000000000) (_ : el.length ≤ 6000000000000) :
    Calls Tryz.prog 110 #[sV (.mk k b c th el) x] W fun e w' => ∃ t v, e = .returned (.iface t v) ∧ FmIn w' (W.heap.size ≤ ·) .mis (.iface t v) ∧ Below W.heap.size W w' := by
  have HA := Lib.hid ((Below.refl W.heap.size W).alloc (Nat.le_refl _) (.cells #[.int .i64 k, .int .i64 b, .int .i64 c.k, .int .i64 c.v, .int .i64 c.n, .slice x.pc c.ps.length x.cc, .slice x.pt th.length x.ct, .slice x.pe el.length x.ce] 84))
  have HM : Hid (∀ w' : World, FmIn w' (W.heap.size ≤ ·) .mis (.iface 213 (.agg #[]))) := Lib.hid fun w' => by rw [FmIn]
  show Calls Tryz.prog 110 #[.agg #[.int .i64 k, .int .i64 b, .int .i64 c.k, .int .i64 c.v, .int .i64 c.n, .slice x.pc c.ps.length x.cc, .slice x.pt th.length x.ct, .slice x.pe el.length x.ce]] W _
  by_cases hk : k = 1
  · subst hk
    have HN : Hid (∀ W, Calls Tryz.prog 175 #[.agg #[.int .i64 c.k, .int .i64 c.v, .int .i64 c.n, .slice x.pc c.ps.length x.cc]] W fun e w' => e = .returned (.bool (noB c)) ∧ Below W.heap.size W w') := Lib.hid fun W => noCond_any c x.pc x.cc W
    have HZ := Lib.hid (fun W => zero2_any (th.length : Int) (el.length : Int) W)
    have hz : noB c = true → ((th.length : Int) == 0 && (el.length : Int) == 0) = false := fun hn => by
      cases hh : ((th.length : Int) == 0 && (el.length : Int) == 0) with
      | false => rfl
      | true =>
        simp only [Bool.and_eq_true, beq_iff_eq] at hh
        exact absurd ⟨rfl, hn, List.length_eq_zero_iff.1 (by omega), List.length_eq_zero_iff.1 (by omega)⟩ h1
    generalize noB c = q1 at *
    generalize ((th.length : Int) == 0 && (el.length : Int) == 0) = q2 at *
    clear h1 h2
    cases q1 with
    | false =>
      clear hz
      generalize c.k = x3 at *
      generalize c.v = x4 at *
      generalize c.n = x5 at *
      generalize c.ps.length = x6 at *
      generalize th.length = n1 at *
      generalize el.length = n2 at *
      obtain ⟨pc, cc, pt, ct, pe, ce⟩ := x
      simp only at *
      go_enter Tryz.func110, Tryz.ntmps110
      go_wp2_with fail
      go_at_call 175
      (with_reducible refine (HN.out _).mono ?_)
      rintro e w1 ⟨rfl, hb⟩
      have HB1 := Lib.hid (HA.out.trans (hb.mono HA.out.size))
      have c0 : w1.cell? ⟨W.heap.size, 0, none⟩ = some (.int .i64 1) := keepc hb (by simp [go_sem])
      clear hb
      go_wp2_with fail
      go_ret
      exact ⟨_, _, rfl, HM.out _, HB1.out⟩
    | true =>
      obtain rfl := hz rfl
      clear hz
      generalize c.k = x3 at *
      generalize c.v = x4 at *
      generalize c.n = x5 at *
      generalize c.ps.length = x6 at *
      generalize th.length = n1 at *
      generalize el.length = n2 at *
      obtain ⟨pc, cc, pt, ct, pe, ce⟩ := x
      simp only at *
      go_enter Tryz.func110, Tryz.ntmps110
      go_wp2_with fail
      go_at_call 175
      (with_reducible refine (HN.out _).mono ?_)
      rintro e w1 ⟨rfl, hb⟩
      have HB1 := Lib.hid (HA.out.trans (hb.mono HA.out.size))
      have c0 : w1.cell? ⟨W.heap.size, 0, none⟩ = some (.int .i64 1) := keepc hb (by simp [go_sem])
      have c6 : w1.cell? ⟨W.heap.size, 6, none⟩ = some (.slice pt n1 ct) := keepc hb (by simp [go_sem])
      have c7 : w1.cell? ⟨W.heap.size, 7, none⟩ = some (.slice pe n2 ce) := keepc hb (by simp [go_sem])
      clear hb
      go_wp2_with fail
      go_at_call 149
      (with_reducible refine (HZ.out _ _ (by simp)).mono ?_)
      rintro e w2 ⟨rfl, hb⟩
      have HB2 := Lib.hid (HB1.out.trans (hb.mono HB1.out.size))
      have d0 := keepc hb c0
      clear hb
      go_wp2_with fail
      go_ret
      exact ⟨_, _, rfl, HM.out _, HB2.out⟩
  · have e1 : (k == 1) = false := beq_eq_false_iff_ne.2 hk
    by_cases hk2 : k = 2
    · subst hk2
      have e2 : (b == 0) = false := beq_eq_false_iff_ne.2 fun h => h2 ⟨rfl, h⟩
      clear h1 h2 hk
      generalize c.k = x3 at *
      generalize c.v = x4 at *
      generalize c.n = x5 at *
      generalize c.ps.length = x6 at *
      generalize th.length = n1 at *
      generalize el.length = n2 at *
      obtain ⟨pc, cc, pt, ct, pe, ce⟩ := x
      simp only at *
      go_enter Tryz.func110, Tryz.ntmps110
      go_wp2_with fail
      go_ret
      exact ⟨_, _, rfl, HM.out _, HA.out⟩
    · have e2 : (k == 2) = false := beq_eq_false_iff_ne.2 hk2
      clear h1 h2 hk hk2
      generalize c.k = x3 at *
      generalize c.v = x4 at *
      generalize c.n = x5 at *
      generalize c.ps.length = x6 at *
      generalize th.length = n1 at *
      generalize el.length = n2 at *
      obtain ⟨pc, cc, pt, ct, pe, ce⟩ := x
      simp only at *
      go_enter Tryz.func110, Tryz.ntmps110
      go_wp2_with fail
      go_ret
      exact ⟨_, _, rfl, HM.out _, HA.out⟩

set_option maxHeartbeats 4000000 in
set_option maxRecDepth 100000 in
theorem sform_crit (b : Int) (c : Cd) (x : Loc) (W : World) (hn : noB c = true) :
    Calls Tryz.prog 110 #[sV (.mk 1 b c [] []) x] W fun e w' => ∃ t v, e = .returned (.iface t v) ∧ FmIn w' (W.heap.size ≤ ·) (.crit b) (.iface t v) ∧ Below W.heap.size W w' := by
  have HA := Lib.hid ((Below.refl W.heap.size W).alloc (Nat.le_refl _) (.cells #[.int .i64 1, .int .i64 b, .int .i64 c.k, .int .i64 c.v, .int .i64 c.n, .slice x.pc c.ps.length x.cc, .slice x.pt 0 x.ct, .slice x.pe 0 x.ce] 84))
  have HM : Hid (∀ w' : World, FmIn w' (W.heap.size ≤ ·) (.crit b) (.iface 167 (.agg #[.int .i64 b]))) := Lib.hid fun w' => by rw [FmIn]
  have HN : Hid (∀ W, Calls Tryz.prog 175 #[.agg #[.int .i64 c.k, .int .i64 c.v, .int .i64 c.n, .slice x.pc c.ps.length x.cc]] W fun e w' => e = .returned (.bool (noB c)) ∧ Below W.heap.size W w') := Lib.hid fun W => noCond_any c x.pc x.cc W
  have HZ := Lib.hid (fun W => zero2_any 0 0 W)
  show Calls Tryz.prog 110 #[.agg #[.int .i64 1, .int .i64 b, .int .i64 c.k, .int .i64 c.v, .int .i64 c.n, .slice x.pc c.ps.length x.cc, .slice x.pt 0 x.ct, .slice x.pe 0 x.ce]] W _
  rw [hn] at HN
  clear hn
  generalize c.k = x3 at *
  generalize c.v = x4 at *
  generalize c.n = x5 at *
  generalize c.ps.length = x6 at *
  obtain ⟨pc, cc, pt, ct, pe, ce⟩ := x
  simp only at *
  go_enter Tryz.func110, Tryz.ntmps110
  go_wp2_with fail
  go_at_call 175
  (with_reducible refine (HN.out _).mono ?_)
  rintro e w1 ⟨rfl, hb⟩
  have HB1 := Lib.hid (HA.out.trans (hb.mono HA.out.size))
  have c1 : w1.cell? ⟨W.heap.size, 1, none⟩ = some (.int .i64 b) := keepc hb (by simp [go_sem])
  have c6 : w1.cell? ⟨W.heap.size, 6, none⟩ = some (.slice pt 0 ct) := keepc hb (by simp [go_sem])
  have c7 : w1.cell? ⟨W.heap.size, 7, none⟩ = some (.slice pe 0 ce) := keepc hb (by simp [go_sem])
  clear hb
  go_wp2_with fail
  go_at_call 149
  (refine (HZ.out _ _ (by simp)).mono ?_)
  rintro e w2 ⟨rfl, hb⟩
  have HB2 := Lib.hid (HB1.out.trans (hb.mono HB1.out.size))
  have d1 := keepc hb c1
  clear hb
  go_wp2_with fail
  go_ret
  exact ⟨_, _, rfl, HM.out _, HB2.out⟩

/-- The forms of the steps of a list. -/
theorem formsT_any {w0 : World} {Q : Nat → Prop} {ss : List St} {p : Option Addr} {cap : Nat} (h : SsIn w0 Q ss p cap) : ∀ W, Below w0.heap.size w0 W → FormsAt W ss p cap := by
  induction h with
  | mk ss p cap b off X hl hc hc2 hp hb hcell hcd hth hel ih1 ih2 =>
    intro W hW W' hW'
    have hWW := hW.trans (hW'.mono hW.size)
    refine forms_step ss p cap b off X (fun hne => (hb hne).1) hl W' (fun W2 h2 i hi j u hu => keepc (hWW.trans (h2.mono hWW.size)) (hcell i hi j u hu)) fun W2 h2 i hi => ?_
    have hW2 := hWW.trans (h2.mono hWW.size)
    have hcd' := (hcd i hi).bel hW2
    have hth' := ih1 i hi W2 hW2
    have hel' := ih2 i hi W2 hW2
    have hlt : ss[i].th.length ≤ 6000000000000 := by cases hth i hi; assumption
    have hle : ss[i].el.length ≤ 6000000000000 := by cases hel i hi; assumption
    generalize ss[i] = s at *
    obtain ⟨k, b, c, th, el⟩ := s
    by_cases h3 : k = 1 ∧ noB c = true ∧ th = [] ∧ el = []
    · obtain ⟨rfl, hn, rfl, rfl⟩ := h3
      rw [formS_crit b c hn]
      exact sform_crit b c (X i) W2 hn
    · by_cases h4 : k = 2 ∧ b = 0
      · obtain ⟨rfl, rfl⟩ := h4
        rw [formS_bran]
        exact sform_bran c th el (X i) W2 _ hcd' hth' hel'
      · rw [formS_mis k b c th el h3 h4]
        exact sform_mis k b c th el (X i) W2 h3 h4 hlt hle
end Go.Proofs.YtabdgnigmlpeaaaGreatDoor
