/- The specification: ties, few steps, the same badges. -/
import Derived.Test.YtabdgnigmlpeaaaGreatDoorTRef4
import Derived.Test.YtabdgnigmlpeaaaGreatDoorTDirect
import Derived.BigQuiet
namespace Go.Proofs.YtabdgnigmlpeaaaGreatDoor
open Go.RowKit

set_option maxHeartbeats 2000000 in
theorem rties_any {w : World} {Q : Nat → Prop} {l : List St} {p : Option Addr} {cap : Nat} (h : SsIn w Q l p cap) :
    Calls Tryz.prog 19 #[.slice p l.length cap] w fun e w' => e = .returned (.int .i64 (rTies l)) ∧ Below w.heap.size w w' := by
  have H1 := rsize_any h w 0 (Below.refl _ _) (by omega)
  rw [show ((0 : Nat) : Int) = 0 from rfl] at H1
  have HS := Lib.hid H1
  have HP : Hid (∀ W, Below w.heap.size w W → Calls Tryz.prog 50 #[.slice p l.length cap] W fun e w' => e = .returned (.bool (okSs l)) ∧ Below W.heap.size W w') := Lib.hid fun W hb => rsteps_any h W hb
  have hr : (l.length = 0 ∧ (rTies l = if 64 < (sizL 0 l).1 ∨ 256 < (sizL 0 l).2 then 2 else 71)) ∨ (((l.length : Int) == 0) = false ∧ (rTies l = if 64 < (sizL 0 l).1 ∨ 256 < (sizL 0 l).2 then 2 else if okSs l = true then 0 else 71)) := by
    cases l with
    | nil => exact .inl ⟨rfl, by unfold rTies; simp⟩
    | cons s l => exact .inr ⟨beq_eq_false_iff_ne.2 (by simp only [List.length_cons]; omega), by unfold rTies; simp⟩
  have hb := sizL_max 0 (by omega) l
  clear h H1
  generalize rTies l = R at *
  generalize (sizL 0 l).1 = n at *
  generalize (sizL 0 l).2 = m at *
  generalize okSs l = q at *
  generalize l.length = ln at *
  by_cases hn : 64 < n
  · have hni : (64 : Int) < (n : Int) := by omega
    have hR : R = 2 := by rcases hr with ⟨_, h⟩ | ⟨_, h⟩ <;> rw [if_pos (.inl hn)] at h <;> exact h
    subst hR
    clear HP hr
    go_enter Tryz.func19, Tryz.ntmps19
    go_wp2_with (go_at_call 46; (with_reducible refine HS.out.mono ?_); rintro e w1 ⟨rfl, hb1⟩; have HB := Lib.hid hb1; clear hb1)
    go_ret
    exact ⟨rfl, HB.out⟩
  · have hni : ¬ (64 : Int) < (n : Int) := by omega
    by_cases hm : 256 < m
    · have hmi : (256 : Int) < (m : Int) := by omega
      have hR : R = 2 := by rcases hr with ⟨_, h⟩ | ⟨_, h⟩ <;> rw [if_pos (.inr hm)] at h <;> exact h
      subst hR
      clear HP hr
      go_enter Tryz.func19, Tryz.ntmps19
      go_wp2_with (go_at_call 46; (with_reducible refine HS.out.mono ?_); rintro e w1 ⟨rfl, hb1⟩; have HB := Lib.hid hb1; clear hb1)
      go_ret
      exact ⟨rfl, HB.out⟩
    · have hmi : ¬ (256 : Int) < (m : Int) := by omega
      rw [if_neg (fun h => h.elim hn hm), if_neg (fun h => h.elim hn hm)] at hr
      rcases hr with ⟨rfl, rfl⟩ | ⟨hl, hR⟩
      · clear HP
        go_enter Tryz.func19, Tryz.ntmps19
        go_wp2_with (go_at_call 46; (with_reducible refine HS.out.mono ?_); rintro e w1 ⟨rfl, hb1⟩; have HB := Lib.hid hb1; clear hb1)
        go_ret
        exact ⟨rfl, HB.out⟩
      · cases q
        all_goals
          simp only [Bool.false_eq_true, if_false, if_true] at hR
          subst hR
          go_enter Tryz.func19, Tryz.ntmps19
          go_wp2_with (first | (go_at_call 46; (with_reducible refine HS.out.mono ?_); rintro e w1 ⟨rfl, hb1⟩; have HB := Lib.hid hb1; clear hb1) | (go_at_call 50; (with_reducible refine (HP.out _ HB.out).mono ?_); rintro e w2 ⟨rfl, hb2⟩; have HB2 := Lib.hid (HB.out.trans (hb2.mono HB.out.size)); clear hb2))
          go_ret
          exact ⟨rfl, HB2.out⟩

def fewS (l : List St) : Bool := decide (l.length ≤ 20) && (decide ((sizL 0 l).1 ≤ 80) && decide ((sizL 0 l).2 ≤ 300))
set_option maxHeartbeats 2000000 in
theorem few_any {w : World} {Q : Nat → Prop} {l : List St} {p : Option Addr} {cap : Nat} (h : SsIn w Q l p cap) :
    Calls Tryz.prog 15 #[.slice p l.length cap] w fun e w' => e = .returned (.bool (fewS l)) ∧ Below w.heap.size w w' := by
  have H1 := rsize_any h w 0 (Below.refl _ _) (by omega)
  rw [show ((0 : Nat) : Int) = 0 from rfl] at H1
  have HS := Lib.hid H1
  have hb := sizL_max 0 (by omega) l
  unfold fewS
  clear h H1
  generalize (sizL 0 l).1 = n at *
  generalize (sizL 0 l).2 = m at *
  generalize l.length = ln at *
  by_cases hl : ln ≤ 20
  · have hli : (ln : Int) ≤ 20 := by omega
    rw [decide_eq_true hl, Bool.true_and]
    by_cases hn : n ≤ 80
    · have hni : (n : Int) ≤ 80 := by omega
      rw [decide_eq_true hn, Bool.true_and]
      rw [show decide (m ≤ 300) = decide ((m : Int) ≤ 300) from decide_eq_decide.2 (by omega)]
      go_enter Tryz.func15, Tryz.ntmps15
      go_wp2_with (go_at_call 46; (with_reducible refine HS.out.mono ?_); rintro e w1 ⟨rfl, hb1⟩; have HB := Lib.hid hb1; clear hb1)
      go_ret
      exact ⟨rfl, HB.out⟩
    · have hni : ¬ (n : Int) ≤ 80 := by omega
      rw [decide_eq_false hn, Bool.false_and]
      go_enter Tryz.func15, Tryz.ntmps15
      go_wp2_with (go_at_call 46; (with_reducible refine HS.out.mono ?_); rintro e w1 ⟨rfl, hb1⟩; have HB := Lib.hid hb1; clear hb1)
      go_ret
      exact ⟨rfl, HB.out⟩
  · have hli : ¬ (ln : Int) ≤ 20 := by omega
    rw [decide_eq_false hl, Bool.false_and]
    go_enter Tryz.func15, Tryz.ntmps15
    go_wp2_with (go_at_call 46; (with_reducible refine HS.out.mono ?_); rintro e w1 ⟨rfl, hb1⟩; have HB := Lib.hid hb1; clear hb1)
    go_ret
    exact ⟨rfl, HB.out⟩

theorem drop_ne {a b : List Int} {j : Nat} (ha : j < a.length) (hb : j < b.length) (h : a[j] ≠ b[j]) : a ≠ b := by
  rintro rfl; exact h rfl
set_option maxHeartbeats 4000000 in
set_option maxRecDepth 100000 in
/-- Two lists of integers are the same. -/
theorem same_any (a b : List Int) (x y : Value) (W : World) (ha : ReadsI W x a) (hb : ReadsI W y b) :
    Calls Tryz.prog 26 #[x, y] W fun e w' => e = .returned (.bool (decide (a = b))) ∧ Below W.heap.size W w' := by
  obtain ⟨p, cap, k, rfl, h1, h2, h3, h4, h5⟩ := ha
  obtain ⟨p', cap', k', rfl, g1, g2, g3, g4, g5⟩ := hb
  have HB0 := Lib.hid (Below.refl W.heap.size W)
  by_cases hl : a.length = b.length
  · have hli : ((a.length : Int) != (b.length : Int)) = false := by rw [hl]; simp
    obtain ⟨T, hT⟩ : ∃ T, decide (a = b) = T := ⟨_, rfl⟩
    rw [hT]
    have HT := Lib.hid hT
    have HE : Hid (∀ w', Below W.heap.size W w' → ∀ j (h : j < a.length) (h' : j < b.length), (p = some ⟨k, 0, none⟩ ∧ p' = some ⟨k', 0, none⟩) ∧ w'.cell? ⟨k, j, none⟩ = some (.int .i64 a[j]) ∧ w'.cell? ⟨k', j, none⟩ = some (.int .i64 b[j])) := Lib.hid fun w' hb j hj hj' =>
      ⟨⟨h2 (by rintro rfl; simp at hj), g2 (by rintro rfl; simp at hj')⟩, keepc hb (h3 j hj), keepc hb (g3 j hj')⟩
    clear h2 h3 g2 g3 hT
    go_enter Tryz.func26, Tryz.ntmps26
    go_wp2_with fail
    go_loopw [5] (fun i wr => ∃ j : Nat, j ≤ a.length ∧ i = .int .i64 j ∧ Hid (∀ i (h : i < a.length) (h' : i < b.length), i < j → a[i] = b[i]) ∧ Hid (Below W.heap.size W wr)) (fun i _ => a.length - (intOf i).toNat)
    case atStart => exact ⟨0, Nat.zero_le _, rfl, Lib.hid (fun i _ _ h => absurd h (Nat.not_lt_zero _)), HB0⟩
    case round =>
      obtain ⟨j, hj, rfl, HI, HB⟩ := hrel
      clear HB0
      by_cases hlt : j < a.length
      · have hji : (j : Int) < (a.length : Int) := by omega
        have hlt' : j < b.length := by omega
        have hji' : (j : Int) < (b.length : Int) := by omega
        obtain ⟨⟨rfl, rfl⟩, c1, c2⟩ := HE.out _ HB.out j hlt hlt'
        by_cases hv : a[j] = b[j]
        · have hvi : (a[j] != b[j]) = false := by rw [hv]; simp
          have HI2 : Hid (∀ i (h : i < a.length) (h' : i < b.length), i < j + 1 → a[i] = b[i]) := Lib.hid fun i h h' hi => by
            by_cases hij : i = j
            · subst hij; exact hv
            · exact HI.out i h h' (by omega)
          have HD : Hid (∀ nn, Below W.heap.size W (wr.drewN nn)) := Lib.hid fun nn => HB.out.trans ⟨rfl, rfl, rfl, Nat.le_refl _, fun _ _ => rfl⟩
          clear HE HI HT hv
          generalize a[j] = v1 at *
          generalize b[j] = v2 at *
          go_wp2_with fail
          go_quiet (fail)
          go_wp2_with fail
          go_roundw
          case rel => exact ⟨j + 1, by omega, by go_num, HI2, Lib.hid (HD.out _)⟩
          case measure => simp [intOf]; omega
        · have hvi : (a[j] != b[j]) = true := by simpa using hv
          have hT : T = false := HT.out.symm.trans (decide_eq_false (drop_ne hlt hlt' hv))
          subst hT
          have HD : Hid (∀ nn, Below W.heap.size W (wr.drewN nn)) := Lib.hid fun nn => HB.out.trans ⟨rfl, rfl, rfl, Nat.le_refl _, fun _ _ => rfl⟩
          clear HE HI HT hv
          generalize a[j] = v1 at *
          generalize b[j] = v2 at *
          go_wp2_with fail
          go_quiet (fail)
          go_wp2_with fail
          go_ret
          exact ⟨rfl, HD.out _⟩
      · have hji : ¬ (j : Int) < (a.length : Int) := by omega
        have hT : T = true := HT.out.symm.trans (decide_eq_true (List.ext_getElem hl fun i h h' => HI.out i h h' (by omega)))
        subst hT
        clear HE HI HT
        go_wp2_with fail
        go_ret
        exact ⟨rfl, HB.out⟩
  · have hli : ((a.length : Int) != (b.length : Int)) = true := by simp only [bne_iff_ne, ne_eq]; omega
    rw [decide_eq_false fun h => hl (by rw [h])]
    clear h2 h3 g2 g3
    go_enter Tryz.func26, Tryz.ntmps26
    go_wp2_with fail
    go_ret
    exact ⟨rfl, HB0.out⟩
end Go.Proofs.YtabdgnigmlpeaaaGreatDoor
