/- conditionForm. -/
import Derived.Test.YtabdgnigmlpeaaaGreatDoorTCForm
namespace Go.Proofs.YtabdgnigmlpeaaaGreatDoor
open Go.RowKit

theorem formC_atl (v n : Int) : formC (.mk 1 v n []) = .atl v n := by rw [formC]; simp
theorem formC_all (v n : Int) (ps : List Cd) (h : v = 0 ∧ n = 0) : formC (.mk 2 v n ps) = .all (ps.map formC) := by rw [formC, formCs_eq]; simp [h]
theorem formC_one (v n : Int) (ps : List Cd) (h : v = 0 ∧ n = 0) : formC (.mk 3 v n ps) = .one (ps.map formC) := by rw [formC, formCs_eq]; simp [h]
theorem formC_neg (v n : Int) (c : Cd) (h : v = 0 ∧ n = 0) : formC (.mk 4 v n [c]) = .neg (formC c) := by rw [formC]; simp [h, formCs]
theorem formC_mis (k v n : Int) (ps : List Cd) (h1 : ¬(k = 1 ∧ ps = [])) (h2 : ¬(k = 2 ∧ v = 0 ∧ n = 0)) (h3 : ¬(k = 3 ∧ v = 0 ∧ n = 0)) (h4 : ¬(k = 4 ∧ v = 0 ∧ n = 0 ∧ ps.length = 1)) : formC (.mk k v n ps) = .mis := by
  rw [formC, if_neg h1, if_neg h2, if_neg h3, if_neg h4]

set_option maxHeartbeats 4000000 in
set_option maxRecDepth 100000 in
theorem cform_any {w0 : World} {Q : Nat → Prop} {c : Cd} {p : Option Addr} {cap : Nat} (h : CdIn w0 Q c p cap) : ∀ W, Below w0.heap.size w0 W →
    Calls Tryz.prog 105 #[cV c p cap] W fun e w' => ∃ t v, e = .returned (.iface t v) ∧ FmIn w' (W.heap.size ≤ ·) (formC c) (.iface t v) ∧ Below W.heap.size W w' := by
  induction h with
  | mk k v n ps p cap b off P C hl hc hc2 hp hb hcell hsub ih =>
    intro W hW
    show Calls Tryz.prog 105 #[.agg #[.int .i64 k, .int .i64 v, .int .i64 n, .slice p ps.length cap]] W _
    have HA := Lib.hid ((Below.refl W.heap.size W).alloc (Nat.le_refl _) (.cells #[.int .i64 k, .int .i64 v, .int .i64 n, .slice p ps.length cap] 40))
    have HZ := Lib.hid (fun W => zero2_any v n W)
    have hcells : ∀ W', Below W.heap.size W W' → ∀ i (h : i < ps.length), W'.cell? ⟨b, off + i * 4, none⟩ = some (.int .i64 ps[i].k) ∧ W'.cell? ⟨b, off + i * 4 + 1, none⟩ = some (.int .i64 ps[i].v) ∧
        W'.cell? ⟨b, off + i * 4 + 2, none⟩ = some (.int .i64 ps[i].n) ∧ W'.cell? ⟨b, off + i * 4 + 3, none⟩ = some (.slice (P i) ps[i].ps.length (C i)) := fun W' h i hi => by
      have hb2 := hW.trans (h.mono hW.size)
      obtain ⟨a0, a1, a2, a3⟩ := hcell i hi
      exact ⟨keepc hb2 a0, keepc hb2 a1, keepc hb2 a2, keepc hb2 a3⟩
    have HF : Hid (∀ w1, Below W.heap.size W w1 → Calls Tryz.prog 169 #[.slice p ps.length cap, .func (Fn.func 105) #[] #[]] w1 fun e w' => ∃ q k, e = .returned (.slice q ps.length k) ∧ FsIn w' (W.heap.size ≤ ·) (ps.map formC) q k ∧ Below W.heap.size W w') := Lib.hid fun w1 hb1 =>
      (forms_cond ps p cap b off P C (fun hne => (hb hne).1) hl w1 (fun W' h' => hcells W' (hb1.trans (h'.mono hb1.size))) fun W' h' i hi => ih i hi W' (hW.trans ((hb1.trans (h'.mono hb1.size)).mono hW.size))).mono fun e w' ⟨q, k, h1, h2, h3⟩ =>
        ⟨q, k, h1, h2.keep2 (Nat.le_refl _) fun b hb _ => ⟨Nat.le_trans hb1.size hb, rfl⟩, hb1.trans (h3.mono hb1.size)⟩
    have HC := Lib.hid hcells
    have HI := Lib.hid ih
    have HW := Lib.hid hW
    have HP := Lib.hid hb
    clear hcell hsub ih hcells hW hb
    have hzz : (v == 0 && n == 0) = true ↔ v = 0 ∧ n = 0 := by simp
    obtain ⟨z, hz⟩ : ∃ z, (v == 0 && n == 0) = z := ⟨_, rfl⟩
    rw [hz] at HZ hzz
    clear hz
    by_cases h1 : k = 1
    · subst h1
      by_cases hps : ps = []
      · subst hps
        rw [formC_atl]
        clear hzz HF HC HI HP
        show Calls Tryz.prog 105 #[.agg #[.int .i64 1, .int .i64 v, .int .i64 n, .slice p 0 cap]] W _
        have HA := Lib.hid ((Below.refl W.heap.size W).alloc (Nat.le_refl _) (.cells #[.int .i64 1, .int .i64 v, .int .i64 n, .slice p 0 cap] 40))
        go_enter Tryz.func105, Tryz.ntmps105
        go_wp2_with fail
        go_at_call 149
        (with_reducible refine (HZ.out _ _ (by simp)).mono ?_)
        rintro e w1 ⟨rfl, hb⟩
        have HB1 := Lib.hid (HA.out.trans (hb.mono HA.out.size))
        have c0 : w1.cell? ⟨W.heap.size, 0, none⟩ = some (.int .i64 1) := keepc hb (by simp [go_sem])
        have c1 : w1.cell? ⟨W.heap.size, 1, none⟩ = some (.int .i64 v) := keepc hb (by simp [go_sem])
        have c2 : w1.cell? ⟨W.heap.size, 2, none⟩ = some (.int .i64 n) := keepc hb (by simp [go_sem])
        have c3 : w1.cell? ⟨W.heap.size, 3, none⟩ = some (.slice p 0 cap) := keepc hb (by simp [go_sem])
        clear hb
        go_wp2_with fail
        go_ret
        exact ⟨_, _, rfl, by rw [FmIn], HB1.out⟩
      · rw [formC_mis 1 v n ps (fun h => hps h.2) (by omega) (by omega) (by omega)]
        have hne : ((ps.length : Int) == 0) = false := by have := List.length_pos_iff.2 hps; exact beq_eq_false_iff_ne.2 (by omega)
        clear hzz HF HC HI HP hps
        go_enter Tryz.func105, Tryz.ntmps105
        go_wp2_with fail
        go_at_call 149
        (with_reducible refine (HZ.out _ _ (by simp)).mono ?_)
        rintro e w1 ⟨rfl, hb⟩
        have HB1 := Lib.hid (HA.out.trans (hb.mono HA.out.size))
        have c0 : w1.cell? ⟨W.heap.size, 0, none⟩ = some (.int .i64 1) := keepc hb (by simp [go_sem])
        have c1 : w1.cell? ⟨W.heap.size, 1, none⟩ = some (.int .i64 v) := keepc hb (by simp [go_sem])
        have c2 : w1.cell? ⟨W.heap.size, 2, none⟩ = some (.int .i64 n) := keepc hb (by simp [go_sem])
        have c3 : w1.cell? ⟨W.heap.size, 3, none⟩ = some (.slice p ps.length cap) := keepc hb (by simp [go_sem])
        clear hb
        go_wp2_with fail
        go_ret
        exact ⟨_, _, rfl, by rw [FmIn], HB1.out⟩
    · by_cases h2 : k = 2
      · subst h2
        cases z with
        | true =>
          rw [formC_all v n ps (hzz.1 rfl)]
          clear hzz HC HI HP
          go_enter Tryz.func105, Tryz.ntmps105
          go_wp2_with fail
          go_at_call 149
          (with_reducible refine (HZ.out _ _ (by simp)).mono ?_)
          rintro e w1 ⟨rfl, hb⟩
          have HB1 := Lib.hid (HA.out.trans (hb.mono HA.out.size))
          have c0 : w1.cell? ⟨W.heap.size, 0, none⟩ = some (.int .i64 2) := keepc hb (by simp [go_sem])
          have c1 : w1.cell? ⟨W.heap.size, 1, none⟩ = some (.int .i64 v) := keepc hb (by simp [go_sem])
          have c2 : w1.cell? ⟨W.heap.size, 2, none⟩ = some (.int .i64 n) := keepc hb (by simp [go_sem])
          have c3 : w1.cell? ⟨W.heap.size, 3, none⟩ = some (.slice p ps.length cap) := keepc hb (by simp [go_sem])
          clear hb
          go_wp2_with fail
          go_at_call 169
          (with_reducible refine (HF.out _ HB1.out).mono ?_)
          rintro e w2 ⟨q, k, rfl, ⟨b2, off2, hL, hAt⟩, hb2⟩
          have HX : Hid (FmIn w2 (W.heap.size ≤ ·) (.all (ps.map formC)) (.iface 176 (.agg #[.slice q ps.length k])) ∧ Below W.heap.size W w2) := Lib.hid ⟨by
            rw [FmIn]
            exact ⟨q, k, b2, off2, by rw [List.length_map], hL, hAt⟩, hb2⟩
          clear hL hAt hb2
          go_wp2_with fail
          go_ret
          exact ⟨_, _, rfl, HX.out⟩
        | false =>
          have hn : ¬(v = 0 ∧ n = 0) := fun h => by have := hzz.2 h; cases this
          rw [formC_mis 2 v n ps (by omega) (fun h => hn h.2) (fun h => hn h.2) (fun h => hn ⟨h.2.1, h.2.2.1⟩)]
          clear hzz HF HC HI HP hn
          go_enter Tryz.func105, Tryz.ntmps105
          go_wp2_with fail
          go_at_call 149
          (with_reducible refine (HZ.out _ _ (by simp)).mono ?_)
          rintro e w1 ⟨rfl, hb⟩
          have HB1 := Lib.hid (HA.out.trans (hb.mono HA.out.size))
          have c0 : w1.cell? ⟨W.heap.size, 0, none⟩ = some (.int .i64 2) := keepc hb (by simp [go_sem])
          have c1 : w1.cell? ⟨W.heap.size, 1, none⟩ = some (.int .i64 v) := keepc hb (by simp [go_sem])
          have c2 : w1.cell? ⟨W.heap.size, 2, none⟩ = some (.int .i64 n) := keepc hb (by simp [go_sem])
          have c3 : w1.cell? ⟨W.heap.size, 3, none⟩ = some (.slice p ps.length cap) := keepc hb (by simp [go_sem])
          clear hb
          go_wp2_with fail
          go_ret
          exact ⟨_, _, rfl, by rw [FmIn], HB1.out⟩
      · by_cases h3 : k = 3
        · subst h3
          cases z with
          | true =>
            rw [formC_one v n ps (hzz.1 rfl)]
            clear hzz HC HI HP
            go_enter Tryz.func105, Tryz.ntmps105
            go_wp2_with fail
            go_at_call 149
            (with_reducible refine (HZ.out _ _ (by simp)).mono ?_)
            rintro e w1 ⟨rfl, hb⟩
            have HB1 := Lib.hid (HA.out.trans (hb.mono HA.out.size))
            have c0 : w1.cell? ⟨W.heap.size, 0, none⟩ = some (.int .i64 3) := keepc hb (by simp [go_sem])
            have c1 : w1.cell? ⟨W.heap.size, 1, none⟩ = some (.int .i64 v) := keepc hb (by simp [go_sem])
            have c2 : w1.cell? ⟨W.heap.size, 2, none⟩ = some (.int .i64 n) := keepc hb (by simp [go_sem])
            have c3 : w1.cell? ⟨W.heap.size, 3, none⟩ = some (.slice p ps.length cap) := keepc hb (by simp [go_sem])
            clear hb
            go_wp2_with fail
            go_at_call 169
            (with_reducible refine (HF.out _ HB1.out).mono ?_)
            rintro e w2 ⟨q, k, rfl, ⟨b2, off2, hL, hAt⟩, hb2⟩
            have HX : Hid (FmIn w2 (W.heap.size ≤ ·) (.one (ps.map formC)) (.iface 179 (.agg #[.slice q ps.length k])) ∧ Below W.heap.size W w2) := Lib.hid ⟨by
              rw [FmIn]
              exact ⟨q, k, b2, off2, by rw [List.length_map], hL, hAt⟩, hb2⟩
            clear hL hAt hb2
            go_wp2_with fail
            go_ret
            exact ⟨_, _, rfl, HX.out⟩
          | false =>
            have hn : ¬(v = 0 ∧ n = 0) := fun h => by have := hzz.2 h; cases this
            rw [formC_mis 3 v n ps (by omega) (fun h => hn h.2) (fun h => hn h.2) (fun h => hn ⟨h.2.1, h.2.2.1⟩)]
            clear hzz HF HC HI HP hn
            go_enter Tryz.func105, Tryz.ntmps105
            go_wp2_with fail
            go_at_call 149
            (with_reducible refine (HZ.out _ _ (by simp)).mono ?_)
            rintro e w1 ⟨rfl, hb⟩
            have HB1 := Lib.hid (HA.out.trans (hb.mono HA.out.size))
            have c0 : w1.cell? ⟨W.heap.size, 0, none⟩ = some (.int .i64 3) := keepc hb (by simp [go_sem])
            have c1 : w1.cell? ⟨W.heap.size, 1, none⟩ = some (.int .i64 v) := keepc hb (by simp [go_sem])
            have c2 : w1.cell? ⟨W.heap.size, 2, none⟩ = some (.int .i64 n) := keepc hb (by simp [go_sem])
            have c3 : w1.cell? ⟨W.heap.size, 3, none⟩ = some (.slice p ps.length cap) := keepc hb (by simp [go_sem])
            clear hb
            go_wp2_with fail
            go_ret
            exact ⟨_, _, rfl, by rw [FmIn], HB1.out⟩
        · by_cases h4 : k = 4
          · subst h4
            cases z with
            | true =>
              have hvn := hzz.1 rfl
              by_cases hone : ps.length = 1
              · obtain ⟨c, rfl⟩ : ∃ c, ps = [c] := by
                  match ps, hone with
                  | [c], _ => exact ⟨c, rfl⟩
                rw [formC_neg v n c hvn]
                obtain ⟨rfl, -, -⟩ := HP.out (by simp)
                have HC0 : Hid (∀ W', Below W.heap.size W W' → W'.cell? ⟨b, off, none⟩ = some (.int .i64 c.k) ∧ W'.cell? ⟨b, off + 1, none⟩ = some (.int .i64 c.v) ∧ W'.cell? ⟨b, off + 2, none⟩ = some (.int .i64 c.n) ∧ W'.cell? ⟨b, off + 3, none⟩ = some (.slice (P 0) c.ps.length (C 0))) := Lib.hid fun W' h' => by
                  have := HC.out W' h' 0 (by simp)
                  simp only [Nat.zero_mul, Nat.add_zero, List.getElem_cons_zero] at this
                  exact this
                have HI0 : Hid (∀ W', Below W.heap.size W W' → Calls Tryz.prog 105 #[cV c (P 0) (C 0)] W' fun e w' => ∃ t v, e = .returned (.iface t v) ∧ FmIn w' (W'.heap.size ≤ ·) (formC c) (.iface t v) ∧ Below W'.heap.size W' w') := Lib.hid fun W' h' =>
                  HI.out 0 (by simp) W' (HW.out.trans (h'.mono HW.out.size))
                unfold cV at HI0
                show Calls Tryz.prog 105 #[.agg #[.int .i64 4, .int .i64 v, .int .i64 n, .slice (some ⟨b, off, none⟩) 1 cap]] W _
                have HA := Lib.hid ((Below.refl W.heap.size W).alloc (Nat.le_refl _) (.cells #[.int .i64 4, .int .i64 v, .int .i64 n, .slice (some ⟨b, off, none⟩) 1 cap] 40))
                clear hzz HF HC HI HP hvn hone
                generalize formC c = f at *
                generalize c.k = x1 at *
                generalize c.v = x2 at *
                generalize c.n = x3 at *
                generalize c.ps.length = x4 at *
                go_enter Tryz.func105, Tryz.ntmps105
                go_wp2_with fail
                go_at_call 149
                (with_reducible refine (HZ.out _ _ (by simp)).mono ?_)
                rintro e w1 ⟨rfl, hb⟩
                have HB1 := Lib.hid (HA.out.trans (hb.mono HA.out.size))
                have c0 : w1.cell? ⟨W.heap.size, 0, none⟩ = some (.int .i64 4) := keepc hb (by simp [go_sem])
                have c1 : w1.cell? ⟨W.heap.size, 1, none⟩ = some (.int .i64 v) := keepc hb (by simp [go_sem])
                have c2 : w1.cell? ⟨W.heap.size, 2, none⟩ = some (.int .i64 n) := keepc hb (by simp [go_sem])
                have c3 : w1.cell? ⟨W.heap.size, 3, none⟩ = some (.slice (some ⟨b, off, none⟩) 1 cap) := keepc hb (by simp [go_sem])
                clear hb
                obtain ⟨a0, a1, a2, a3⟩ := HC0.out _ HB1.out
                go_wp2_with fail
                go_at_call 105
                (with_reducible refine (HI0.out _ HB1.out).mono ?_)
                rintro e w2 ⟨t, y, rfl, hf, hb2⟩
                have HX : Hid (FmIn w2 (W.heap.size ≤ ·) (.neg f) (.iface 181 (.agg #[.iface t y])) ∧ Below W.heap.size W w2) := Lib.hid ⟨by
                  rw [FmIn]
                  exact ⟨_, rfl, hf.mono fun b hb => Nat.le_trans HB1.out.size hb⟩, HB1.out.trans (hb2.mono HB1.out.size)⟩
                clear hf hb2
                go_wp2_with fail
                go_ret
                exact ⟨_, _, rfl, HX.out⟩
              · rw [formC_mis 4 v n ps (by omega) (by omega) (by omega) (fun h => hone h.2.2.2)]
                have hne : ((ps.length : Int) == 1) = false := beq_eq_false_iff_ne.2 (by omega)
                clear hzz HF HC HI HP hvn hone
                go_enter Tryz.func105, Tryz.ntmps105
                go_wp2_with fail
                go_at_call 149
                (with_reducible refine (HZ.out _ _ (by simp)).mono ?_)
                rintro e w1 ⟨rfl, hb⟩
                have HB1 := Lib.hid (HA.out.trans (hb.mono HA.out.size))
                have c0 : w1.cell? ⟨W.heap.size, 0, none⟩ = some (.int .i64 4) := keepc hb (by simp [go_sem])
                have c1 : w1.cell? ⟨W.heap.size, 1, none⟩ = some (.int .i64 v) := keepc hb (by simp [go_sem])
                have c2 : w1.cell? ⟨W.heap.size, 2, none⟩ = some (.int .i64 n) := keepc hb (by simp [go_sem])
                have c3 : w1.cell? ⟨W.heap.size, 3, none⟩ = some (.slice p ps.length cap) := keepc hb (by simp [go_sem])
                clear hb
                go_wp2_with fail
                go_ret
                exact ⟨_, _, rfl, by rw [FmIn], HB1.out⟩
            | false =>
              have hn : ¬(v = 0 ∧ n = 0) := fun h => by have := hzz.2 h; cases this
              rw [formC_mis 4 v n ps (by omega) (by omega) (by omega) (fun h => hn ⟨h.2.1, h.2.2.1⟩)]
              clear hzz HF HC HI HP hn
              go_enter Tryz.func105, Tryz.ntmps105
              go_wp2_with fail
              go_at_call 149
              (with_reducible refine (HZ.out _ _ (by simp)).mono ?_)
              rintro e w1 ⟨rfl, hb⟩
              have HB1 := Lib.hid (HA.out.trans (hb.mono HA.out.size))
              have c0 : w1.cell? ⟨W.heap.size, 0, none⟩ = some (.int .i64 4) := keepc hb (by simp [go_sem])
              have c1 : w1.cell? ⟨W.heap.size, 1, none⟩ = some (.int .i64 v) := keepc hb (by simp [go_sem])
              have c2 : w1.cell? ⟨W.heap.size, 2, none⟩ = some (.int .i64 n) := keepc hb (by simp [go_sem])
              have c3 : w1.cell? ⟨W.heap.size, 3, none⟩ = some (.slice p ps.length cap) := keepc hb (by simp [go_sem])
              clear hb
              go_wp2_with fail
              go_ret
              exact ⟨_, _, rfl, by rw [FmIn], HB1.out⟩
          · rw [formC_mis k v n ps (fun h => h1 h.1) (fun h => h2 h.1) (fun h => h3 h.1) (fun h => h4 h.1)]
            have e1 : (k == 1) = false := beq_eq_false_iff_ne.2 h1
            have e2 : (k == 2) = false := beq_eq_false_iff_ne.2 h2
            have e3 : (k == 3) = false := beq_eq_false_iff_ne.2 h3
            have e4 : (k == 4) = false := beq_eq_false_iff_ne.2 h4
            clear hzz HF HC HI HP h1 h2 h3 h4
            cases z
            all_goals
              go_enter Tryz.func105, Tryz.ntmps105
              go_wp2_with fail
              go_at_call 149
              (with_reducible refine (HZ.out _ _ (by simp)).mono ?_)
              rintro e w1 ⟨rfl, hb⟩
              have HB1 := Lib.hid (HA.out.trans (hb.mono HA.out.size))
              have c0 : w1.cell? ⟨W.heap.size, 0, none⟩ = some (.int .i64 k) := keepc hb (by simp [go_sem])
              have c1 : w1.cell? ⟨W.heap.size, 1, none⟩ = some (.int .i64 v) := keepc hb (by simp [go_sem])
              have c2 : w1.cell? ⟨W.heap.size, 2, none⟩ = some (.int .i64 n) := keepc hb (by simp [go_sem])
              have c3 : w1.cell? ⟨W.heap.size, 3, none⟩ = some (.slice p ps.length cap) := keepc hb (by simp [go_sem])
              clear hb
              go_wp2_with fail
              go_ret
              exact ⟨_, _, rfl, by rw [FmIn], HB1.out⟩
end Go.Proofs.YtabdgnigmlpeaaaGreatDoor
