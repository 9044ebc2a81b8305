/- The specification: valid conditions and environments. -/
import Derived.Test.YtabdgnigmlpeaaaGreatDoorTRef1
namespace Go.Proofs.YtabdgnigmlpeaaaGreatDoor
open Go.RowKit

set_option maxHeartbeats 8000000 in
set_option maxRecDepth 100000 in
theorem rparts_any {w0 : World} {Q : Nat → Prop} {c : Cd} {p : Option Addr} {cap : Nat} (h : CdIn w0 Q c p cap) : ∀ (W : World), Below w0.heap.size w0 W →
    Calls Tryz.prog 48 #[cV c p cap] W fun e w' => e = .returned (.bool (okC c)) ∧ Below W.heap.size W w' := by
  induction h with
  | mk k v n ps p cap b off P C hl hc hc2 hp hb hcell hsub ih =>
    intro W hW
    show Calls Tryz.prog 48 #[.agg #[.int .i64 k, .int .i64 v, .int .i64 n, .slice p ps.length cap]] W _
    have HE : Hid (∀ w', Below W.heap.size W w' → ∀ j (h : j < ps.length), (p = some ⟨b, off, none⟩ ∧ w'.cell? ⟨b, off + j * 4, none⟩ = some (.int .i64 ps[j].k) ∧ w'.cell? ⟨b, off + j * 4 + 1, none⟩ = some (.int .i64 ps[j].v) ∧ w'.cell? ⟨b, off + j * 4 + 2, none⟩ = some (.int .i64 ps[j].n) ∧ w'.cell? ⟨b, off + j * 4 + 3, none⟩ = some (.slice (P j) ps[j].ps.length (C j))) ∧
        Calls Tryz.prog 48 #[cV ps[j] (P j) (C j)] w' fun e w2 => e = .returned (.bool (okC ps[j])) ∧ Below w'.heap.size w' w2) := Lib.hid fun w' hb' j hj => by
      have hbb := hW.trans (hb'.mono hW.size)
      obtain ⟨a0, a1, a2, a3⟩ := hcell j hj
      exact ⟨⟨(hb (by rintro rfl; simp at hj)).1, keepc hbb a0, keepc hbb a1, keepc hbb a2, keepc hbb a3⟩, ih j hj w' hbb⟩
    clear ih hsub hcell hb hW hp
    rw [okC]
    obtain ⟨T, hT⟩ : ∃ T, okCs ps = T := ⟨_, rfl⟩
    rw [hT]
    by_cases hk1 : k = 1
    · subst hk1
      clear hT
      rw [if_pos rfl]
      by_cases h1 : 1 ≤ v
      · by_cases h2 : v ≤ 3
        · by_cases h3 : 0 ≤ n
          · by_cases h4 : n ≤ 10000
            · by_cases h5 : ps = []
              · subst h5
                rw [decide_eq_true ⟨h1, h2⟩, decide_eq_true ⟨h3, h4⟩]
                show Calls Tryz.prog 48 #[.agg #[.int .i64 1, .int .i64 v, .int .i64 n, .slice p 0 cap]] W _
                have HA := Lib.hid ((Below.refl W.heap.size W).alloc (Nat.le_refl _) (.cells #[.int .i64 1, .int .i64 v, .int .i64 n, .slice p 0 cap] 40))
                clear HE
                go_enter Tryz.func48, Tryz.ntmps48
                go_wp2_with fail
                go_ret
                exact ⟨rfl, HA.out⟩
              · have hne : ((ps.length : Int) == 0) = false := by have := List.length_pos_iff.2 h5; exact beq_eq_false_iff_ne.2 (by omega)
                have he : ps.isEmpty = false := by simpa using h5
                rw [he, Bool.and_false, Bool.and_false]
                clear h5 he
                have HA := Lib.hid ((Below.refl W.heap.size W).alloc (Nat.le_refl _) (.cells #[.int .i64 1, .int .i64 v, .int .i64 n, .slice p ps.length cap] 40))
                clear HE
                go_enter Tryz.func48, Tryz.ntmps48
                go_wp2_with fail
                go_ret
                exact ⟨rfl, HA.out⟩
            · rw [decide_eq_false (fun h : 0 ≤ n ∧ n ≤ 10000 => h4 h.2), Bool.false_and, Bool.and_false]
              have HA := Lib.hid ((Below.refl W.heap.size W).alloc (Nat.le_refl _) (.cells #[.int .i64 1, .int .i64 v, .int .i64 n, .slice p ps.length cap] 40))
              clear HE
              go_enter Tryz.func48, Tryz.ntmps48
              go_wp2_with fail
              go_ret
              exact ⟨rfl, HA.out⟩
          · rw [decide_eq_false (fun h : 0 ≤ n ∧ n ≤ 10000 => h3 h.1), Bool.false_and, Bool.and_false]
            have HA := Lib.hid ((Below.refl W.heap.size W).alloc (Nat.le_refl _) (.cells #[.int .i64 1, .int .i64 v, .int .i64 n, .slice p ps.length cap] 40))
            clear HE
            go_enter Tryz.func48, Tryz.ntmps48
            go_wp2_with fail
            go_ret
            exact ⟨rfl, HA.out⟩
        · rw [decide_eq_false (fun h : 1 ≤ v ∧ v ≤ 3 => h2 h.2), Bool.false_and]
          have HA := Lib.hid ((Below.refl W.heap.size W).alloc (Nat.le_refl _) (.cells #[.int .i64 1, .int .i64 v, .int .i64 n, .slice p ps.length cap] 40))
          clear HE
          go_enter Tryz.func48, Tryz.ntmps48
          go_wp2_with fail
          go_ret
          exact ⟨rfl, HA.out⟩
      · rw [decide_eq_false (fun h : 1 ≤ v ∧ v ≤ 3 => h1 h.1), Bool.false_and]
        have HA := Lib.hid ((Below.refl W.heap.size W).alloc (Nat.le_refl _) (.cells #[.int .i64 1, .int .i64 v, .int .i64 n, .slice p ps.length cap] 40))
        clear HE
        go_enter Tryz.func48, Tryz.ntmps48
        go_wp2_with fail
        go_ret
        exact ⟨rfl, HA.out⟩
    · rw [if_neg hk1]
      by_cases hk2 : k = 2
      · subst hk2
        rw [if_pos (by omega)]
        by_cases h1 : 1 ≤ ps.length
        · have h1i : ¬ (ps.length : Int) < 1 := by omega
          by_cases h2 : ps.length ≤ 16
          · have h2i : ¬ (16 : Int) < (ps.length : Int) := by omega
            rw [decide_eq_true ⟨h1, h2⟩, Bool.true_and]
            by_cases hv : v = 0
            · subst hv
              by_cases hn : n = 0
              · subst hn
                rw [decide_eq_true ⟨rfl, rfl⟩, Bool.true_and]
                have H0 : Hid (okCs (ps.drop 0) = T) := Lib.hid (by rw [List.drop_zero]; exact hT)
                have HC3 : Hid (∀ w', Below (W.alloc (.cells #[.int .i64 2, .int .i64 0, .int .i64 0, .slice p ps.length cap] 40)).heap.size (W.alloc (.cells #[.int .i64 2, .int .i64 0, .int .i64 0, .slice p ps.length cap] 40)) w' → w'.cell? ⟨W.heap.size, 3, none⟩ = some (.slice p ps.length cap)) := Lib.hid fun w' hb => keepc hb (by simp [go_sem])
                have HB0 := Lib.hid (Below.refl (W.alloc (.cells #[.int .i64 2, .int .i64 0, .int .i64 0, .slice p ps.length cap] 40)).heap.size (W.alloc (.cells #[.int .i64 2, .int .i64 0, .int .i64 0, .slice p ps.length cap] 40)))
                have HA := Lib.hid ((Below.refl W.heap.size W).alloc (Nat.le_refl _) (.cells #[.int .i64 2, .int .i64 0, .int .i64 0, .slice p ps.length cap] 40))
                clear hT
                go_enter Tryz.func48, Tryz.ntmps48
                go_wp2_with fail
                go_loopw [3] (fun i wr => ∃ j : Nat, j ≤ ps.length ∧ i = .int .i64 j ∧ Hid (okCs (ps.drop j) = T) ∧ Hid (Below (W.alloc (.cells #[.int .i64 2, .int .i64 0, .int .i64 0, .slice p ps.length cap] 40)).heap.size (W.alloc (.cells #[.int .i64 2, .int .i64 0, .int .i64 0, .slice p ps.length cap] 40)) wr)) (fun i _ => ps.length - (intOf i).toNat)
                case atStart => exact ⟨0, Nat.zero_le _, rfl, H0, HB0⟩
                case round =>
                  obtain ⟨j, hj, rfl, HI, HB⟩ := hrel
                  clear H0 HB0
                  have y3 := HC3.out _ HB.out
                  by_cases hlt : j < ps.length
                  · have hji : (j : Int) < (ps.length : Int) := by omega
                    obtain ⟨⟨rfl, a0, a1, a2, a3⟩, hcall⟩ := HE.out _ (HA.out.trans (HB.out.mono HA.out.size)) j hlt
                    have HCC := Lib.hid hcall
                    have HS1 : Hid (okC ps[j] = true → okCs (ps.drop (j + 1)) = T) := Lib.hid fun h => by
                      have := HI.out
                      rw [(List.getElem_cons_drop hlt).symm, okCs, h, Bool.true_and] at this
                      exact this
                    have HS2 : Hid (okC ps[j] = false → T = false) := Lib.hid fun h => by
                      have := HI.out
                      rw [(List.getElem_cons_drop hlt).symm, okCs, h, Bool.false_and] at this
                      exact this.symm
                    clear hcall HE HI HC3
                    unfold cV at HCC
                    generalize okC ps[j] = x at *
                    generalize ps[j].k = x1 at *
                    generalize ps[j].v = x2 at *
                    generalize ps[j].n = x3 at *
                    generalize ps[j].ps.length = x4 at *
                    cases x with
                    | true =>
                      have HI2 := Lib.hid (HS1.out rfl)
                      clear HS1 HS2
                      go_wp2_with (go_at_call 48; (with_reducible refine HCC.out.mono ?_); rintro e w2 ⟨rfl, hb⟩; have HB2 := Lib.hid (HB.out.trans (hb.mono HB.out.size)); clear hb)
                      go_round
                      case rel => exact ⟨j + 1, by omega, by go_num, HI2, HB2⟩
                      case measure => simp [intOf]; omega
                    | false =>
                      obtain rfl := HS2.out rfl
                      clear HS1 HS2
                      go_wp2_with (go_at_call 48; (with_reducible refine HCC.out.mono ?_); rintro e w2 ⟨rfl, hb⟩; have HB2 := Lib.hid (HB.out.trans (hb.mono HB.out.size)); clear hb)
                      go_ret
                      exact ⟨rfl, HA.out.trans (HB2.out.mono HA.out.size)⟩
                  · have hji : ¬ (j : Int) < (ps.length : Int) := by omega
                    have hT : T = true := by
                      have := HI.out
                      rw [List.drop_of_length_le (by omega), okCs] at this
                      exact this.symm
                    subst hT
                    clear HE HI HC3
                    go_wp2_with fail
                    go_ret
                    exact ⟨rfl, HA.out.trans (HB.out.mono HA.out.size)⟩
              · rw [decide_eq_false (fun h : (0 : Int) = 0 ∧ n = 0 => hn h.2), Bool.false_and]
                have hni : (n != 0) = true := by simpa using hn
                clear hT hn
                have HA := Lib.hid ((Below.refl W.heap.size W).alloc (Nat.le_refl _) (.cells #[.int .i64 2, .int .i64 0, .int .i64 n, .slice p ps.length cap] 40))
                clear HE
                go_enter Tryz.func48, Tryz.ntmps48
                go_wp2_with fail
                go_ret
                exact ⟨rfl, HA.out⟩
            · rw [decide_eq_false (fun h : v = 0 ∧ n = 0 => hv h.1), Bool.false_and]
              have hvi : (v != 0) = true := by simpa using hv
              clear hT hv
              have HA := Lib.hid ((Below.refl W.heap.size W).alloc (Nat.le_refl _) (.cells #[.int .i64 2, .int .i64 v, .int .i64 n, .slice p ps.length cap] 40))
              clear HE
              go_enter Tryz.func48, Tryz.ntmps48
              go_wp2_with fail
              go_ret
              exact ⟨rfl, HA.out⟩
          · have h2i : (16 : Int) < (ps.length : Int) := by omega
            rw [decide_eq_false (fun h : 1 ≤ ps.length ∧ ps.length ≤ 16 => h2 h.2), Bool.false_and]
            clear hT
            have HA := Lib.hid ((Below.refl W.heap.size W).alloc (Nat.le_refl _) (.cells #[.int .i64 2, .int .i64 v, .int .i64 n, .slice p ps.length cap] 40))
            clear HE
            go_enter Tryz.func48, Tryz.ntmps48
            go_wp2_with fail
            go_ret
            exact ⟨rfl, HA.out⟩
        · have h1i : (ps.length : Int) < 1 := by omega
          rw [decide_eq_false (fun h : 1 ≤ ps.length ∧ ps.length ≤ 16 => h1 h.1), Bool.false_and]
          clear hT
          have HA := Lib.hid ((Below.refl W.heap.size W).alloc (Nat.le_refl _) (.cells #[.int .i64 2, .int .i64 v, .int .i64 n, .slice p ps.length cap] 40))
          clear HE
          go_enter Tryz.func48, Tryz.ntmps48
          go_wp2_with fail
          go_ret
          exact ⟨rfl, HA.out⟩
      · skip
        by_cases hk3 : k = 3
        · subst hk3
          rw [if_pos (by omega)]
          by_cases h1 : 1 ≤ ps.length
          · have h1i : ¬ (ps.length : Int) < 1 := by omega
            by_cases h2 : ps.length ≤ 16
            · have h2i : ¬ (16 : Int) < (ps.length : Int) := by omega
              rw [decide_eq_true ⟨h1, h2⟩, Bool.true_and]
              by_cases hv : v = 0
              · subst hv
                by_cases hn : n = 0
                · subst hn
                  rw [decide_eq_true ⟨rfl, rfl⟩, Bool.true_and]
                  have H0 : Hid (okCs (ps.drop 0) = T) := Lib.hid (by rw [List.drop_zero]; exact hT)
                  have HC3 : Hid (∀ w', Below (W.alloc (.cells #[.int .i64 3, .int .i64 0, .int .i64 0, .slice p ps.length cap] 40)).heap.size (W.alloc (.cells #[.int .i64 3, .int .i64 0, .int .i64 0, .slice p ps.length cap] 40)) w' → w'.cell? ⟨W.heap.size, 3, none⟩ = some (.slice p ps.length cap)) := Lib.hid fun w' hb => keepc hb (by simp [go_sem])
                  have HB0 := Lib.hid (Below.refl (W.alloc (.cells #[.int .i64 3, .int .i64 0, .int .i64 0, .slice p ps.length cap] 40)).heap.size (W.alloc (.cells #[.int .i64 3, .int .i64 0, .int .i64 0, .slice p ps.length cap] 40)))
                  have HA := Lib.hid ((Below.refl W.heap.size W).alloc (Nat.le_refl _) (.cells #[.int .i64 3, .int .i64 0, .int .i64 0, .slice p ps.length cap] 40))
                  clear hT
                  go_enter Tryz.func48, Tryz.ntmps48
                  go_wp2_with fail
                  go_loopw [3] (fun i wr => ∃ j : Nat, j ≤ ps.length ∧ i = .int .i64 j ∧ Hid (okCs (ps.drop j) = T) ∧ Hid (Below (W.alloc (.cells #[.int .i64 3, .int .i64 0, .int .i64 0, .slice p ps.length cap] 40)).heap.size (W.alloc (.cells #[.int .i64 3, .int .i64 0, .int .i64 0, .slice p ps.length cap] 40)) wr)) (fun i _ => ps.length - (intOf i).toNat)
                  case atStart => exact ⟨0, Nat.zero_le _, rfl, H0, HB0⟩
                  case round =>
                    obtain ⟨j, hj, rfl, HI, HB⟩ := hrel
                    clear H0 HB0
                    have y3 := HC3.out _ HB.out
                    by_cases hlt : j < ps.length
                    · have hji : (j : Int) < (ps.length : Int) := by omega
                      obtain ⟨⟨rfl, a0, a1, a2, a3⟩, hcall⟩ := HE.out _ (HA.out.trans (HB.out.mono HA.out.size)) j hlt
                      have HCC := Lib.hid hcall
                      have HS1 : Hid (okC ps[j] = true → okCs (ps.drop (j + 1)) = T) := Lib.hid fun h => by
                        have := HI.out
                        rw [(List.getElem_cons_drop hlt).symm, okCs, h, Bool.true_and] at this
                        exact this
                      have HS2 : Hid (okC ps[j] = false → T = false) := Lib.hid fun h => by
                        have := HI.out
                        rw [(List.getElem_cons_drop hlt).symm, okCs, h, Bool.false_and] at this
                        exact this.symm
                      clear hcall HE HI HC3
                      unfold cV at HCC
                      generalize okC ps[j] = x at *
                      generalize ps[j].k = x1 at *
                      generalize ps[j].v = x2 at *
                      generalize ps[j].n = x3 at *
                      generalize ps[j].ps.length = x4 at *
                      cases x with
                      | true =>
                        have HI2 := Lib.hid (HS1.out rfl)
                        clear HS1 HS2
                        go_wp2_with (go_at_call 48; (with_reducible refine HCC.out.mono ?_); rintro e w2 ⟨rfl, hb⟩; have HB2 := Lib.hid (HB.out.trans (hb.mono HB.out.size)); clear hb)
                        go_round
                        case rel => exact ⟨j + 1, by omega, by go_num, HI2, HB2⟩
                        case measure => simp [intOf]; omega
                      | false =>
                        obtain rfl := HS2.out rfl
                        clear HS1 HS2
                        go_wp2_with (go_at_call 48; (with_reducible refine HCC.out.mono ?_); rintro e w2 ⟨rfl, hb⟩; have HB2 := Lib.hid (HB.out.trans (hb.mono HB.out.size)); clear hb)
                        go_ret
                        exact ⟨rfl, HA.out.trans (HB2.out.mono HA.out.size)⟩
                    · have hji : ¬ (j : Int) < (ps.length : Int) := by omega
                      have hT : T = true := by
                        have := HI.out
                        rw [List.drop_of_length_le (by omega), okCs] at this
                        exact this.symm
                      subst hT
                      clear HE HI HC3
                      go_wp2_with fail
                      go_ret
                      exact ⟨rfl, HA.out.trans (HB.out.mono HA.out.size)⟩
                · rw [decide_eq_false (fun h : (0 : Int) = 0 ∧ n = 0 => hn h.2), Bool.false_and]
                  have hni : (n != 0) = true := by simpa using hn
                  clear hT hn
                  have HA := Lib.hid ((Below.refl W.heap.size W).alloc (Nat.le_refl _) (.cells #[.int .i64 3, .int .i64 0, .int .i64 n, .slice p ps.length cap] 40))
                  clear HE
                  go_enter Tryz.func48, Tryz.ntmps48
                  go_wp2_with fail
                  go_ret
                  exact ⟨rfl, HA.out⟩
              · rw [decide_eq_false (fun h : v = 0 ∧ n = 0 => hv h.1), Bool.false_and]
                have hvi : (v != 0) = true := by simpa using hv
                clear hT hv
                have HA := Lib.hid ((Below.refl W.heap.size W).alloc (Nat.le_refl _) (.cells #[.int .i64 3, .int .i64 v, .int .i64 n, .slice p ps.length cap] 40))
                clear HE
                go_enter Tryz.func48, Tryz.ntmps48
                go_wp2_with fail
                go_ret
                exact ⟨rfl, HA.out⟩
            · have h2i : (16 : Int) < (ps.length : Int) := by omega
              rw [decide_eq_false (fun h : 1 ≤ ps.length ∧ ps.length ≤ 16 => h2 h.2), Bool.false_and]
              clear hT
              have HA := Lib.hid ((Below.refl W.heap.size W).alloc (Nat.le_refl _) (.cells #[.int .i64 3, .int .i64 v, .int .i64 n, .slice p ps.length cap] 40))
              clear HE
              go_enter Tryz.func48, Tryz.ntmps48
              go_wp2_with fail
              go_ret
              exact ⟨rfl, HA.out⟩
          · have h1i : (ps.length : Int) < 1 := by omega
            rw [decide_eq_false (fun h : 1 ≤ ps.length ∧ ps.length ≤ 16 => h1 h.1), Bool.false_and]
            clear hT
            have HA := Lib.hid ((Below.refl W.heap.size W).alloc (Nat.le_refl _) (.cells #[.int .i64 3, .int .i64 v, .int .i64 n, .slice p ps.length cap] 40))
            clear HE
            go_enter Tryz.func48, Tryz.ntmps48
            go_wp2_with fail
            go_ret
            exact ⟨rfl, HA.out⟩
        · rw [if_neg (by omega)]
          by_cases hk4 : k = 4
          · subst hk4
            rw [if_pos rfl]
            by_cases h1 : ps.length = 1
            · have h1i : ((ps.length : Int) != 1) = false := by simp [h1]
              rw [decide_eq_true h1, Bool.true_and]
              by_cases hv : v = 0
              · subst hv
                by_cases hn : n = 0
                · subst hn
                  rw [decide_eq_true ⟨rfl, rfl⟩, Bool.true_and]
                  have H1 := Lib.hid h1
                  clear h1
                  have H0 : Hid (okCs (ps.drop 0) = T) := Lib.hid (by rw [List.drop_zero]; exact hT)
                  have HC3 : Hid (∀ w', Below (W.alloc (.cells #[.int .i64 4, .int .i64 0, .int .i64 0, .slice p ps.length cap] 40)).heap.size (W.alloc (.cells #[.int .i64 4, .int .i64 0, .int .i64 0, .slice p ps.length cap] 40)) w' → w'.cell? ⟨W.heap.size, 3, none⟩ = some (.slice p ps.length cap)) := Lib.hid fun w' hb => keepc hb (by simp [go_sem])
                  have HB0 := Lib.hid (Below.refl (W.alloc (.cells #[.int .i64 4, .int .i64 0, .int .i64 0, .slice p ps.length cap] 40)).heap.size (W.alloc (.cells #[.int .i64 4, .int .i64 0, .int .i64 0, .slice p ps.length cap] 40)))
                  have HA := Lib.hid ((Below.refl W.heap.size W).alloc (Nat.le_refl _) (.cells #[.int .i64 4, .int .i64 0, .int .i64 0, .slice p ps.length cap] 40))
                  clear hT
                  go_enter Tryz.func48, Tryz.ntmps48
                  go_wp2_with fail
                  go_loopw [3] (fun i wr => ∃ j : Nat, j ≤ ps.length ∧ i = .int .i64 j ∧ Hid (okCs (ps.drop j) = T) ∧ Hid (Below (W.alloc (.cells #[.int .i64 4, .int .i64 0, .int .i64 0, .slice p ps.length cap] 40)).heap.size (W.alloc (.cells #[.int .i64 4, .int .i64 0, .int .i64 0, .slice p ps.length cap] 40)) wr)) (fun i _ => ps.length - (intOf i).toNat)
                  case atStart => exact ⟨0, Nat.zero_le _, rfl, H0, HB0⟩
                  case round =>
                    obtain ⟨j, hj, rfl, HI, HB⟩ := hrel
                    clear H0 HB0
                    have y3 := HC3.out _ HB.out
                    by_cases hlt : j < ps.length
                    · have hji : (j : Int) < (ps.length : Int) := by omega
                      obtain ⟨⟨rfl, a0, a1, a2, a3⟩, hcall⟩ := HE.out _ (HA.out.trans (HB.out.mono HA.out.size)) j hlt
                      have HCC := Lib.hid hcall
                      have HS1 : Hid (okC ps[j] = true → okCs (ps.drop (j + 1)) = T) := Lib.hid fun h => by
                        have := HI.out
                        rw [(List.getElem_cons_drop hlt).symm, okCs, h, Bool.true_and] at this
                        exact this
                      have HS2 : Hid (okC ps[j] = false → T = false) := Lib.hid fun h => by
                        have := HI.out
                        rw [(List.getElem_cons_drop hlt).symm, okCs, h, Bool.false_and] at this
                        exact this.symm
                      clear hcall HE HI HC3
                      unfold cV at HCC
                      generalize okC ps[j] = x at *
                      generalize ps[j].k = x1 at *
                      generalize ps[j].v = x2 at *
                      generalize ps[j].n = x3 at *
                      generalize ps[j].ps.length = x4 at *
                      cases x with
                      | true =>
                        have HI2 := Lib.hid (HS1.out rfl)
                        clear HS1 HS2
                        go_wp2_with (go_at_call 48; (with_reducible refine HCC.out.mono ?_); rintro e w2 ⟨rfl, hb⟩; have HB2 := Lib.hid (HB.out.trans (hb.mono HB.out.size)); clear hb)
                        go_round
                        case rel => exact ⟨j + 1, by omega, by go_num, HI2, HB2⟩
                        case measure => simp [intOf]; omega
                      | false =>
                        obtain rfl := HS2.out rfl
                        clear HS1 HS2
                        go_wp2_with (go_at_call 48; (with_reducible refine HCC.out.mono ?_); rintro e w2 ⟨rfl, hb⟩; have HB2 := Lib.hid (HB.out.trans (hb.mono HB.out.size)); clear hb)
                        go_ret
                        exact ⟨rfl, HA.out.trans (HB2.out.mono HA.out.size)⟩
                    · have hji : ¬ (j : Int) < (ps.length : Int) := by omega
                      have hT : T = true := by
                        have := HI.out
                        rw [List.drop_of_length_le (by omega), okCs] at this
                        exact this.symm
                      subst hT
                      clear HE HI HC3
                      go_wp2_with fail
                      go_ret
                      exact ⟨rfl, HA.out.trans (HB.out.mono HA.out.size)⟩
                · rw [decide_eq_false (fun h : (0 : Int) = 0 ∧ n = 0 => hn h.2), Bool.false_and]
                  have hni : (n != 0) = true := by simpa using hn
                  clear hT hn h1
                  have HA := Lib.hid ((Below.refl W.heap.size W).alloc (Nat.le_refl _) (.cells #[.int .i64 4, .int .i64 0, .int .i64 n, .slice p ps.length cap] 40))
                  clear HE
                  go_enter Tryz.func48, Tryz.ntmps48
                  go_wp2_with fail
                  go_ret
                  exact ⟨rfl, HA.out⟩
              · rw [decide_eq_false (fun h : v = 0 ∧ n = 0 => hv h.1), Bool.false_and]
                have hvi : (v != 0) = true := by simpa using hv
                clear hT hv h1
                have HA := Lib.hid ((Below.refl W.heap.size W).alloc (Nat.le_refl _) (.cells #[.int .i64 4, .int .i64 v, .int .i64 n, .slice p ps.length cap] 40))
                clear HE
                go_enter Tryz.func48, Tryz.ntmps48
                go_wp2_with fail
                go_ret
                exact ⟨rfl, HA.out⟩
            · have h1i : ((ps.length : Int) != 1) = true := by simpa using fun h => h1 (by omega)
              rw [decide_eq_false h1, Bool.false_and]
              clear hT h1
              have HA := Lib.hid ((Below.refl W.heap.size W).alloc (Nat.le_refl _) (.cells #[.int .i64 4, .int .i64 v, .int .i64 n, .slice p ps.length cap] 40))
              clear HE
              go_enter Tryz.func48, Tryz.ntmps48
              go_wp2_with fail
              go_ret
              exact ⟨rfl, HA.out⟩
          · rw [if_neg hk4]
            have e1 : (k == 1) = false := beq_eq_false_iff_ne.2 hk1
            have e2 : (k == 2) = false := beq_eq_false_iff_ne.2 hk2
            have e3 : (k == 3) = false := beq_eq_false_iff_ne.2 hk3
            have e4 : (k == 4) = false := beq_eq_false_iff_ne.2 hk4
            clear hT hk1 hk2 hk3 hk4
            have HA := Lib.hid ((Below.refl W.heap.size W).alloc (Nat.le_refl _) (.cells #[.int .i64 k, .int .i64 v, .int .i64 n, .slice p ps.length cap] 40))
            clear HE
            go_enter Tryz.func48, Tryz.ntmps48
            go_wp2_with fail
            go_ret
            exact ⟨rfl, HA.out⟩

theorem rcond_any {w : World} {Q : Nat → Prop} {c : Cd} {p : Option Addr} {cap : Nat} (h : CdIn w Q c p cap) :
    Calls Tryz.prog 17 #[cV c p cap] w fun e w' => e = .returned (.int .i64 (rCond c)) ∧ Below w.heap.size w w' := by
  have hA := (Below.refl w.heap.size w).alloc (Nat.le_refl _) (.cells #[.int .i64 c.k, .int .i64 c.v, .int .i64 c.n, .slice p c.ps.length cap] 40)
  have H : Hid (Calls Tryz.prog 45 #[cV c p cap, .int .i64 0] (w.alloc (.cells #[.int .i64 c.k, .int .i64 c.v, .int .i64 c.n, .slice p c.ps.length cap] 40)) fun e w' => e = .returned (.int .i64 (cntC 0 c : Int)) ∧ Below w.heap.size w w' ∧ w'.cell? ⟨w.heap.size, 0, none⟩ = some (.int .i64 c.k) ∧ w'.cell? ⟨w.heap.size, 1, none⟩ = some (.int .i64 c.v) ∧ w'.cell? ⟨w.heap.size, 2, none⟩ = some (.int .i64 c.n) ∧ w'.cell? ⟨w.heap.size, 3, none⟩ = some (.slice p c.ps.length cap)) := Lib.hid ((rcount_any h _ 0 hA (by omega)).mono fun e w' hr => ⟨hr.1, hA.trans (hr.2.mono hA.size), keepc hr.2 (by simp [go_sem]), keepc hr.2 (by simp [go_sem]), keepc hr.2 (by simp [go_sem]), keepc hr.2 (by simp [go_sem])⟩)
  have HP : Hid (∀ W, Below w.heap.size w W → Calls Tryz.prog 48 #[cV c p cap] W fun e w' => e = .returned (.bool (okC c)) ∧ Below W.heap.size W w') := Lib.hid fun W hb => rparts_any h W hb
  clear h hA
  unfold rCond
  unfold cV at *
  generalize cntC 0 c = x at *
  generalize okC c = q at *
  generalize c.k = x1 at *
  generalize c.v = x2 at *
  generalize c.n = x3 at *
  generalize c.ps.length = x4 at *
  by_cases hx : 256 < x
  · rw [if_pos hx]
    have hxi : (256 : Int) < (x : Int) := by omega
    go_enter Tryz.func17, Tryz.ntmps17
    go_wp2_with (go_at_call 45; (with_reducible refine H.out.mono ?_); rintro e w2 ⟨rfl, hb, -⟩; have HB2 := Lib.hid hb; clear hb)
    go_ret
    exact ⟨rfl, HB2.out⟩
  · rw [if_neg hx]
    have hxi : ¬ (256 : Int) < (x : Int) := by omega
    cases q
    all_goals
      simp only [Bool.false_eq_true, if_false, if_true]
      go_enter Tryz.func17, Tryz.ntmps17
      go_wp2_with (first | (go_at_call 45; (with_reducible refine H.out.mono ?_); rintro e w2 ⟨rfl, hb, c0, c1, c2, c3⟩; have HB2 := Lib.hid hb; clear hb) | (go_at_call 48; (with_reducible refine (HP.out _ HB2.out).mono ?_); rintro e w3 ⟨rfl, hb⟩; have HB3 := Lib.hid (HB2.out.trans (hb.mono HB2.out.size)); clear hb))
      go_ret
      exact ⟨rfl, HB3.out⟩
end Go.Proofs.YtabdgnigmlpeaaaGreatDoor
