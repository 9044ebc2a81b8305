/- The specification: how many steps. -/
import Derived.Test.YtabdgnigmlpeaaaGreatDoorTRef2
import Derived.Test.YtabdgnigmlpeaaaGreatDoorTHold
namespace Go.Proofs.YtabdgnigmlpeaaaGreatDoor
open Go.RowKit

set_option maxHeartbeats 2000000 in
theorem rzero_any (c : Cd) (p : Option Addr) (cap : Nat) (w : World) :
    Calls Tryz.prog 102 #[cV c p cap] w fun e w' => e = .returned (.bool (noB c)) ∧ Below w.heap.size w w' := by
  have HA := Lib.hid ((Below.refl w.heap.size w).alloc (Nat.le_refl _) (.cells #[.int .i64 c.k, .int .i64 c.v, .int .i64 c.n, .slice p c.ps.length cap] 40))
  have hn : noB c = (c.k == 0 && (c.v == 0 && (c.n == 0 && (c.ps.length : Int) == 0))) := by
    unfold noB
    congr 3
    cases c.ps with
    | nil => rfl
    | cons x l => simp only [List.length_cons, List.isEmpty_cons]; symm; rw [beq_eq_false_iff_ne]; omega
  rw [hn]
  unfold cV
  clear hn
  generalize c.k = x1 at *
  generalize c.v = x2 at *
  generalize c.n = x3 at *
  generalize c.ps.length = x4 at *
  cases h1 : (x1 == 0) with
  | false =>
    go_enter Tryz.func102, Tryz.ntmps102
    go_wp2_with fail
    go_ret
    exact ⟨rfl, HA.out⟩
  | true =>
    cases h2 : (x2 == 0) with
    | false =>
      go_enter Tryz.func102, Tryz.ntmps102
      go_wp2_with fail
      go_ret
      exact ⟨rfl, HA.out⟩
    | true =>
      cases h3 : (x3 == 0) with
      | false =>
        go_enter Tryz.func102, Tryz.ntmps102
        go_wp2_with fail
        go_ret
        exact ⟨rfl, HA.out⟩
      | true =>
        cases h4 : ((x4 : Int) == 0)
        all_goals
          go_enter Tryz.func102, Tryz.ntmps102
          go_wp2_with fail
          go_ret
          exact ⟨rfl, HA.out⟩

set_option maxHeartbeats 2000000 in
theorem renv_any (x : En) (w : World) :
    Calls Tryz.prog 21 #[envV x] w fun e w' => e = .returned (.int .i64 (envE x)) ∧ Below w.heap.size w w' := by
  obtain ⟨d, f, s⟩ := x
  have HA := Lib.hid ((Below.refl w.heap.size w).alloc (Nat.le_refl _) (.cells #[.int .i64 d, .int .i64 f, .int .i64 s] 42))
  unfold envV
  simp only at *
  have hR : ∀ P : Prop, (P ∨ ¬ P) := fun P => Classical.em P
  have key : (d < 0 ∨ ¬ d < 0 ∧ 7 < d ∨ ¬ d < 0 ∧ ¬ 7 < d ∧ f < 0 ∨ ¬ d < 0 ∧ ¬ 7 < d ∧ ¬ f < 0 ∧ 4000 < f ∨ ¬ d < 0 ∧ ¬ 7 < d ∧ ¬ f < 0 ∧ ¬ 4000 < f ∧ s < 0 ∨ ¬ d < 0 ∧ ¬ 7 < d ∧ ¬ f < 0 ∧ ¬ 4000 < f ∧ ¬ s < 0 ∧ 1 < s) ∨ (¬ d < 0 ∧ ¬ 7 < d ∧ ¬ f < 0 ∧ ¬ 4000 < f ∧ ¬ s < 0 ∧ ¬ 1 < s) := by omega
  clear hR
  rcases key with h | ⟨h1, h2, h3, h4, h5, h6⟩
  · have hE : envE ⟨d, f, s⟩ = 1 := by
      unfold envE En.ok
      rw [if_neg]
      simp only [Bool.and_eq_true, decide_eq_true_eq]
      omega
    rw [hE]
    clear hE
    rcases h with h | ⟨h, h2⟩ | ⟨h, h2, h3⟩ | ⟨h, h2, h3, h4⟩ | ⟨h, h2, h3, h4, h5⟩ | ⟨h, h2, h3, h4, h5, h6⟩
    all_goals
      go_enter Tryz.func21, Tryz.ntmps21
      go_wp2_with fail
      go_ret
      exact ⟨rfl, HA.out⟩
  · have hE : envE ⟨d, f, s⟩ = 0 := by
      unfold envE En.ok
      rw [if_pos]
      simp only [Bool.and_eq_true, decide_eq_true_eq]
      omega
    rw [hE]
    clear hE
    go_enter Tryz.func21, Tryz.ntmps21
    go_wp2_with fail
    go_ret
    exact ⟨rfl, HA.out⟩

theorem sizS_eq (d : Nat) (s : St) : sizS d s = (1 + (sizL (d + 1) s.th).1 + (sizL (d + 1) s.el).1, (sizL (d + 1) s.th).2 + (sizL (d + 1) s.el).2 + if noB s.c = true then 0 else cntC 0 s.c) := by
  obtain ⟨k, b, c, th, el⟩ := s
  rw [sizS]; rfl
theorem sizSs_bound (d M : Nat) (h : ∀ s : St, (sizS d s).1 ≤ M ∧ (sizS d s).2 ≤ M) : ∀ (l : List St) (n m : Nat), (sizSs d n m l).1 ≤ max n (64 + M) ∧ (sizSs d n m l).2 ≤ max m (256 + M)
  | [], n, m => by rw [sizSs]; simp only; omega
  | s :: l, n, m => by
    rw [sizSs]
    have hs := h s
    split
    · have := sizSs_bound d M h l (n + (sizS d s).1) (m + (sizS d s).2)
      omega
    · simp only; omega
/-- A bound of the counts, k levels above the deepest. -/
def bS : Nat → Nat
  | 0 => 1000
  | k + 1 => 20000 + 2 * bS k
theorem bS_pos (k : Nat) : 1000 ≤ bS k := by cases k with
  | zero => exact Nat.le_refl _
  | succ k => rw [bS]; omega
theorem bS_le : ∀ k, k ≤ 18 → bS k ≤ 6000000000 := by decide
theorem sizL_bound : ∀ (k d : Nat), d + k = 17 → ∀ l : List St, (sizL d l).1 ≤ bS k ∧ (sizL d l).2 ≤ bS k
  | 0, d, h, l => by
    unfold sizL
    by_cases h0 : l ≠ [] ∧ 16 < d
    · rw [if_pos h0]; exact ⟨Nat.le_refl _, Nat.le_refl _⟩
    · have : l = [] := by
        by_cases h1 : l = []
        · exact h1
        · exact absurd ⟨h1, by omega⟩ h0
      subst this
      rw [if_neg h0, sizSs]
      exact ⟨Nat.zero_le _, Nat.zero_le _⟩
  | k + 1, d, h, l => by
    have ih := sizL_bound k (d + 1) (by omega)
    have hp := bS_pos k
    have hs : ∀ s : St, (sizS d s).1 ≤ 10001 + 2 * bS k ∧ (sizS d s).2 ≤ 10001 + 2 * bS k := fun s => by
      rw [sizS_eq]
      have h1 := ih s.th
      have h2 := ih s.el
      have h3 := cntC_max 0 (by omega) s.c
      simp only
      split <;> omega
    unfold sizL
    split
    · rw [bS]; simp only; omega
    · have := sizSs_bound d _ hs l 0 0
      rw [bS]; omega
theorem sizL_max (d : Nat) (hd : d ≤ 17) (l : List St) : (sizL d l).1 ≤ 6000000000 ∧ (sizL d l).2 ≤ 6000000000 := by
  have := sizL_bound (17 - d) d (by omega) l
  have := bS_le (17 - d) (by omega)
  omega

set_option maxHeartbeats 8000000 in
set_option maxRecDepth 100000 in
theorem rsize_any {w0 : World} {Q : Nat → Prop} {ss : List St} {p : Option Addr} {cap : Nat} (h : SsIn w0 Q ss p cap) : ∀ (W : World) (d : Nat), Below w0.heap.size w0 W → d ≤ 17 →
    Calls Tryz.prog 46 #[.slice p ss.length cap, .int .i64 (d : Int)] W fun e w' => e = .returned (.tuple #[.int .i64 ((sizL d ss).1 : Int), .int .i64 ((sizL d ss).2 : Int)]) ∧ Below W.heap.size W w' := by
  induction h with
  | mk ss p cap b off X hl hc hc2 hp hb hcell hcd hth hel ih1 ih2 =>
    intro W d hW hd
    unfold sizL
    have HB0 := Lib.hid (Below.refl W.heap.size W)
    by_cases h0 : ss ≠ [] ∧ 16 < d
    · rw [if_pos h0]
      have h16i : (16 : Int) < (d : Int) := by omega
      have hni : (0 : Int) < (ss.length : Int) := by have := List.length_pos_iff.2 h0.1; omega
      clear ih1 ih2 hcd hth hel hcell hb hW h0
      go_enter Tryz.func46, Tryz.ntmps46
      go_wp2_with fail
      go_ret2
      exact ⟨rfl, HB0.out⟩
    · rw [if_neg h0]
      have hcond : ss ≠ [] → ¬ (16 : Int) < (d : Int) := fun h1 h2 => h0 ⟨h1, by omega⟩
      obtain ⟨T, hT⟩ : ∃ T, sizSs d 0 0 ss = T := ⟨_, rfl⟩
      rw [hT]
      have H0 : Hid (sizSs d 0 0 (ss.drop 0) = T) := Lib.hid (by rw [List.drop_zero]; exact hT)
      have HE : Hid (∀ w', Below W.heap.size W w' → ∀ j (h : j < ss.length), p = some ⟨b, off, none⟩ ∧ (∀ i u, (cellsS ss[j] (X j))[i]? = some u → w'.cell? ⟨b, off + j * 8 + i, none⟩ = some u)) := Lib.hid fun w' hb' j hj =>
        ⟨(hb (by rintro rfl; simp at hj)).1, fun i u hu => keepc (hW.trans (hb'.mono hW.size)) (hcell j hj i u hu)⟩
      have HK : Hid (∀ w', Below W.heap.size W w' → ∀ j (h : j < ss.length), d + 1 ≤ 17 → 
          Calls Tryz.prog 46 #[.slice (X j).pt ss[j].th.length (X j).ct, .int .i64 ((d : Int) + 1)] w' (fun e w2 => e = .returned (.tuple #[.int .i64 ((sizL (d + 1) ss[j].th).1 : Int), .int .i64 ((sizL (d + 1) ss[j].th).2 : Int)]) ∧ Below w'.heap.size w' w2) ∧
          Calls Tryz.prog 46 #[.slice (X j).pe ss[j].el.length (X j).ce, .int .i64 ((d : Int) + 1)] w' (fun e w2 => e = .returned (.tuple #[.int .i64 ((sizL (d + 1) ss[j].el).1 : Int), .int .i64 ((sizL (d + 1) ss[j].el).2 : Int)]) ∧ Below w'.heap.size w' w2) ∧
          Calls Tryz.prog 45 #[cV ss[j].c (X j).pc (X j).cc, .int .i64 0] w' (fun e w2 => e = .returned (.int .i64 (cntC 0 ss[j].c : Int)) ∧ Below w'.heap.size w' w2)) := Lib.hid fun w' hb' j hj hd2 => by
        have hbb := hW.trans (hb'.mono hW.size)
        have a1 := ih1 j hj w' (d + 1) hbb hd2
        have a2 := ih2 j hj w' (d + 1) hbb hd2
        rw [show ((d + 1 : Nat) : Int) = (d : Int) + 1 by omega] at a1 a2
        exact ⟨a1, a2, rcount_any (hcd j hj) w' 0 hbb (by omega)⟩
      have HCo := Lib.hid hcond
      have hzero : ss = [] → ¬ (0 : Int) < (ss.length : Int) := fun h => by rw [h]; decide
      have hpos : ss ≠ [] → (0 : Int) < (ss.length : Int) := fun h => by have := List.length_pos_iff.2 h; omega
      have HZ := Lib.hid hzero
      have HPo := Lib.hid hpos
      clear ih1 ih2 hcd hth hel hcell hb hW h0 hT hcond hzero hpos
      have hbegin : (¬ (0 : Int) < (ss.length : Int)) ∨ ((0 : Int) < (ss.length : Int) ∧ ¬ (16 : Int) < (d : Int)) := by
        by_cases h : ss = []
        · exact .inl (HZ.out h)
        · exact .inr ⟨HPo.out h, HCo.out h⟩
      clear HZ HPo
      rcases hbegin with hg | ⟨hg, hg2⟩
      all_goals
        go_enter Tryz.func46, Tryz.ntmps46
        go_wp2_with fail
        go_loopw [6, 7, 8] (fun nv mv i wr => ∃ j n m : Nat, j ≤ ss.length ∧ i = .int .i64 j ∧ nv = .int .i64 n ∧ mv = .int .i64 m ∧ Hid (sizSs d n m (ss.drop j) = T) ∧ Hid (n ≤ 20000000000 ∧ m ≤ 20000000000) ∧ Hid (Below W.heap.size W wr)) (fun _ _ i _ => ss.length - (intOf i).toNat)
        case atStart => exact ⟨0, 0, 0, Nat.zero_le _, rfl, rfl, rfl, H0, Lib.hid (by omega), HB0⟩
        case round =>
          obtain ⟨j, n, m, hj, rfl, rfl, rfl, HI, HM, HB⟩ := hrel
          clear H0 HB0
          by_cases hlt : j < ss.length
          · first | (exfalso; omega) | skip
            all_goals
              have hji : (j : Int) < (ss.length : Int) := by omega
              by_cases hn : n ≤ 64
              · have hni : (n : Int) ≤ 64 := by omega
                by_cases hm : m ≤ 256
                · have hmi : (m : Int) ≤ 256 := by omega
                  obtain ⟨rfl, hcc⟩ := HE.out _ HB.out j hlt
                  have hd2 : d + 1 ≤ 17 := by
                    have := HCo.out (by rintro rfl; simp at hlt)
                    omega
                  have HI2 : Hid (sizSs d (n + (1 + (sizL (d + 1) ss[j].th).1 + (sizL (d + 1) ss[j].el).1)) (m + ((sizL (d + 1) ss[j].th).2 + (sizL (d + 1) ss[j].el).2 + if noB ss[j].c = true then 0 else cntC 0 ss[j].c)) (ss.drop (j + 1)) = T) := Lib.hid (by
                    have := HI.out
                    rw [(List.getElem_cons_drop hlt).symm, sizSs, if_pos ⟨hn, hm⟩, sizS_eq] at this
                    exact this)
                  have b1 := sizL_max (d + 1) hd2 ss[j].th
                  have b2 := sizL_max (d + 1) hd2 ss[j].el
                  have b3 := cntC_max 0 (by omega) ss[j].c
                  have HK1 := Lib.hid (fun w' hb' => (HK.out w' hb' j hlt hd2).1)
                  have HK2 := Lib.hid (fun w' hb' => (HK.out w' hb' j hlt hd2).2.1)
                  have HK3 := Lib.hid (fun w' hb' => (HK.out w' hb' j hlt hd2).2.2)
                  have HZr : Hid (∀ w', Calls Tryz.prog 102 #[cV ss[j].c (X j).pc (X j).cc] w' fun e w2 => e = .returned (.bool (noB ss[j].c)) ∧ Below w'.heap.size w' w2) := Lib.hid fun w' => rzero_any ss[j].c (X j).pc (X j).cc w'
                  have HC2 : Hid (∀ w', Below wr.heap.size wr w' → w'.cell? ⟨b, off + j * 8 + 2, none⟩ = some (.int .i64 ss[j].c.k) ∧ w'.cell? ⟨b, off + j * 8 + 3, none⟩ = some (.int .i64 ss[j].c.v) ∧ w'.cell? ⟨b, off + j * 8 + 4, none⟩ = some (.int .i64 ss[j].c.n) ∧ w'.cell? ⟨b, off + j * 8 + 5, none⟩ = some (.slice (X j).pc ss[j].c.ps.length (X j).cc) ∧ w'.cell? ⟨b, off + j * 8 + 6, none⟩ = some (.slice (X j).pt ss[j].th.length (X j).ct) ∧ w'.cell? ⟨b, off + j * 8 + 7, none⟩ = some (.slice (X j).pe ss[j].el.length (X j).ce)) := Lib.hid fun w' hb' =>
                    ⟨keepc hb' (hcc 2 _ rfl), keepc hb' (hcc 3 _ rfl), keepc hb' (hcc 4 _ rfl), keepc hb' (hcc 5 _ rfl), keepc hb' (hcc 6 _ rfl), keepc hb' (hcc 7 _ rfl)⟩
                  clear hcc HE HI HK HM HCo
                  unfold cV at HZr HK3
                  generalize (sizL (d + 1) ss[j].th).1 = s1 at *
                  generalize (sizL (d + 1) ss[j].th).2 = s2 at *
                  generalize (sizL (d + 1) ss[j].el).1 = s3 at *
                  generalize (sizL (d + 1) ss[j].el).2 = s4 at *
                  generalize cntC 0 ss[j].c = s5 at *
                  generalize noB ss[j].c = q at *
                  generalize ss[j].c.k = x1 at *
                  generalize ss[j].c.v = x2 at *
                  generalize ss[j].c.n = x3 at *
                  generalize ss[j].c.ps.length = x4 at *
                  generalize ss[j].th.length = x5 at *
                  generalize ss[j].el.length = x6 at *
                  generalize X j = xj at *
                  obtain ⟨pc, cc, pt, ct, pe, ce⟩ := xj
                  simp only at *
                  obtain ⟨y2, y3, y4, y5, y6, y7⟩ := HC2.out _ (Below.refl _ _)
                  have HBr := Lib.hid (Below.refl wr.heap.size wr)
                  cases q
                  all_goals
                    simp only [Bool.false_eq_true, if_false, if_true, Nat.add_zero] at HI2
                    go_wp2_with (first
                      | (go_at_call 46; (with_reducible refine (HK1.out _ HB.out).mono ?_); rintro e w1 ⟨rfl, hb⟩; clear y2 y3 y4 y5 y6 y7; obtain ⟨y2, y3, y4, y5, y6, y7⟩ := HC2.out _ hb; have G1 := Lib.hid hb; clear hb)
                      | (go_at_call 46; (with_reducible refine (HK2.out _ (HB.out.trans (G1.out.mono HB.out.size))).mono ?_); rintro e w2 ⟨rfl, hb⟩; clear y2 y3 y4 y5 y6 y7; obtain ⟨y2, y3, y4, y5, y6, y7⟩ := HC2.out _ (G1.out.trans (hb.mono G1.out.size)); have G2 := Lib.hid (G1.out.trans (hb.mono G1.out.size)); clear hb)
                      | (go_at_call 102; (with_reducible refine (HZr.out _).mono ?_); rintro e w3 ⟨rfl, hb⟩; clear y2 y3 y4 y5 y6 y7; obtain ⟨y2, y3, y4, y5, y6, y7⟩ := HC2.out _ (G2.out.trans (hb.mono G2.out.size)); have G3 := Lib.hid (G2.out.trans (hb.mono G2.out.size)); clear hb)
                      | (go_at_call 45; (with_reducible refine (HK3.out _ (HB.out.trans (G3.out.mono HB.out.size))).mono ?_); rintro e w4 ⟨rfl, hb⟩; have G4 := Lib.hid (G3.out.trans (hb.mono G3.out.size)); clear hb))
                    go_round
                    case rel =>
                      first
                        | exact ⟨j + 1, _, _, by omega, by go_num, by go_num, by go_num, HI2, Lib.hid (by omega), Lib.hid (HB.out.trans (G4.out.mono HB.out.size))⟩
                        | exact ⟨j + 1, _, _, by omega, by go_num, by go_num, by go_num, HI2, Lib.hid (by omega), Lib.hid (HB.out.trans (G3.out.mono HB.out.size))⟩
                    case measure => simp [intOf]; omega
                · have hmi : ¬ (m : Int) ≤ 256 := by omega
                  have hT : T = (n, m) := by
                    have := HI.out
                    rw [(List.getElem_cons_drop hlt).symm, sizSs, if_neg (fun h => hm h.2)] at this
                    exact this.symm
                  subst hT
                  clear HE HI HK HCo
                  go_wp2_with fail
                  go_ret2
                  exact ⟨rfl, HB.out⟩
              · have hni : ¬ (n : Int) ≤ 64 := by omega
                have hT : T = (n, m) := by
                  have := HI.out
                  rw [(List.getElem_cons_drop hlt).symm, sizSs, if_neg (fun h => hn h.1)] at this
                  exact this.symm
                subst hT
                clear HE HI HK HCo
                go_wp2_with fail
                go_ret2
                exact ⟨rfl, HB.out⟩
          · have hji : ¬ (j : Int) < (ss.length : Int) := by omega
            have hT : T = (n, m) := by
              have := HI.out
              rw [List.drop_of_length_le (by omega), sizSs] at this
              exact this.symm
            subst hT
            clear HE HI HK HCo
            go_wp2_with fail
            go_ret2
            exact ⟨rfl, HB.out⟩
end Go.Proofs.YtabdgnigmlpeaaaGreatDoor
