/- The program's numerals. -/
import Derived.Test.YtdhdjfkknfbmhaaGreatDoorKGlob
namespace Go.Proofs.YtdhdjfkknfbmhaaGreatDoor
open Go.RowKit

theorem S_ne (l : Bs) (h : 0 < l.length) : (S l).toList.isEmpty = false := by
  rw [S_toList]
  cases l with
  | nil => simp at h
  | cons c t => rfl
theorem S_nil : (S []).toList.isEmpty = true := by rw [S_toList]; rfl
theorem inC_0 (k : Nat) : inC k 0 = false := by
  unfold inC; split <;> (try split) <;> decide

theorem beginsWith_any (k : Nat) (hk : k < 3) (l : Bs) (hb : l.length ≤ 140737488351232) (w : World) (hG : Gl w) :
    Calls Tryz.prog 105 #[.int .i64 k, .string (S l)] w fun e w' => e = .returned (.bool (inC k (l.headD 0))) ∧ w' = w := by
  have hsz := S_size l
  by_cases h0 : 0 < l.length
  · have hs0 : 0 < (S l).size := by omega
    have HG0 := S_get0 l hs0
    have HI := in_any k hk (l.headD 0) w hG
    rw [← HG0] at HI ⊢
    have HI := Lib.hid HI
    have hne := S_ne l h0
    clear hG HG0
    generalize inC k ((S l)[0]'hs0) = r at *
    go_enter Tryz.func105, Tryz.ntmps105
    go_wp2_with fail
    go_at_call 54
    refine HI.out.mono ?_
    rintro e w' ⟨rfl, rfl⟩
    go_wp2_with fail
    go_ret
    exact ⟨rfl, rfl⟩
  · have : l = [] := List.eq_nil_of_length_eq_zero (by omega)
    subst this
    have ht := S_nil
    show Calls _ _ _ _ fun e w' => e = .returned (.bool (inC k 0)) ∧ w' = w
    rw [inC_0]
    clear hG
    go_enter Tryz.func105, Tryz.ntmps105
    go_wp2_with fail
    go_ret
    exact ⟨rfl, rfl⟩

theorem inWord_any (c : UInt8) (w : World) (hG : Gl w) :
    Calls Tryz.prog 146 #[.int .u8 c.toNat] w fun e w' => e = .returned (.bool (isW c)) ∧ w' = w := by
  have hc := byte_le c
  have HL := Lib.hid (in_any 1 (by decide) c w hG)
  have HD := Lib.hid (in_any 2 (by decide) c w hG)
  have HE : Hid (isW c = (inC 1 c || inC 2 c || c == 95)) := Lib.hid rfl
  have H95 : Hid ((c == 95) = decide (c.toNat = 95)) := Lib.hid (beq_nat c 95)
  clear hG
  generalize isW c = r at *
  generalize (c == 95) = q at *
  generalize inC 1 c = a at *
  generalize inC 2 c = b at *
  generalize c.toNat = n at *
  go_enter Tryz.func146, Tryz.ntmps146
  cases a with
  | true =>
    go_wp2_with (go_at_call 54; refine HL.out.mono ?_; rintro e w' ⟨rfl, rfl⟩)
    go_ret
    exact ⟨ret_bool (by rw [HE.out]; rfl), rfl⟩
  | false =>
    cases b with
    | true =>
      go_wp2_with fail
      go_at_call 54
      refine HL.out.mono ?_
      rintro e w' ⟨rfl, rfl⟩
      go_wp2_with fail
      go_at_call 54
      refine HD.out.mono ?_
      rintro e w' ⟨rfl, rfl⟩
      go_wp2_with fail
      go_ret
      exact ⟨ret_bool (by rw [HE.out]; rfl), rfl⟩
    | false =>
      go_wp2_with fail
      go_at_call 54
      refine HL.out.mono ?_
      rintro e w' ⟨rfl, rfl⟩
      go_wp2_with fail
      go_at_call 54
      refine HD.out.mono ?_
      rintro e w' ⟨rfl, rfl⟩
      go_wp2_with fail
      go_ret
      refine ⟨ret_bool ?_, rfl⟩
      rw [HE.out, H95.out]
      exact beq_int n 95

theorem dropD (l : Bs) : (decide (0 < l.length) && (l.dropWhile isD == [])) = (decide (0 < l.length) && l.all isD) := by
  congr 1
  induction l with
  | nil => rfl
  | cons c t ih =>
    rw [List.dropWhile_cons, List.all_cons]
    by_cases h : isD c = true
    · rw [if_pos h, ih, h, Bool.true_and]
    · rw [if_neg h]; simp [h]

theorem hasDigits_any (l : Bs) (hb : l.length ≤ 140737488351232) (w : World) (hG : Gl w) :
    Calls Tryz.prog 153 #[.string (S l)] w fun e w' => e = .returned (.bool (decide (0 < l.length) && l.all isD)) ∧ Below w.heap.size w w' := by
  have hsz := S_size l
  by_cases h0 : 0 < l.length
  · have HT := Lib.hid (trimLeft_any l w)
    have HE := Lib.hid (dropD l)
    have hc := hG.cls 2 (by decide)
    have HS := Lib.hid (S_toList (l.dropWhile isD))
    have hne := S_ne l h0
    change w.cell? ⟨0, 2, none⟩ = some (.string (S (clsL.getD 2 []))) at hc
    generalize clsL.getD 2 [] = ds at *
    clear hG
    rw [← HE.out]
    go_enter Tryz.func153, Tryz.ntmps153
    go_wp2_with fail
    go_at_call 176
    refine HT.out.mono ?_
    rintro e w' ⟨rfl, hb'⟩
    have HB := Lib.hid hb'; clear hb' hc
    go_wp2_with fail
    go_ret
    refine ⟨ret_bool ?_, HB.out⟩
    rw [HS.out]
    cases List.dropWhile isD l <;> simp [h0]
  · have : l = [] := List.eq_nil_of_length_eq_zero (by omega)
    subst this
    have ht := S_nil
    clear hG
    go_enter Tryz.func153, Tryz.ntmps153
    go_wp2_with fail
    go_ret
    exact ⟨rfl, Below.refl _ _⟩

theorem isFraction_any (l : Bs) (hb : l.length ≤ 140737488351232) (w : World) (hG : Gl w) :
    Calls Tryz.prog 156 #[.string (S l)] w fun e w' => e = .returned (.bool (isFr l)) ∧ Below w.heap.size w w' := by
  have hsz := S_size l
  have HH := Lib.hid (hasDigits_any l hb w hG)
  have HE : Hid (isFr l = (decide (l.length ≤ 6) && (decide (0 < l.length) && l.all isD))) := Lib.hid (by
    unfold isFr; cases decide (l.length ≤ 6) <;> simp [Nat.one_le_iff_ne_zero, Nat.pos_iff_ne_zero])
  clear hG
  generalize (decide (0 < l.length) && l.all isD) = q at *
  by_cases h6 : l.length ≤ 6
  · go_enter Tryz.func156, Tryz.ntmps156
    go_wp2_with fail
    go_at_call 153
    refine HH.out.mono ?_
    rintro e w' ⟨rfl, hb'⟩
    have HB := Lib.hid hb'; clear hb'
    go_wp2_with fail
    go_ret
    exact ⟨ret_bool (by rw [HE.out]; simp [h6]), HB.out⟩
  · go_enter Tryz.func156, Tryz.ntmps156
    go_wp2_with fail
    go_ret
    exact ⟨ret_bool (by rw [HE.out]; simp [h6]), Below.refl _ _⟩

theorem isNumeral_any (l : Bs) (hb : l.length ≤ 140737488351232) (w : World) (hG : Gl w) :
    Calls Tryz.prog 115 #[.string (S l)] w fun e w' => e = .returned (.bool (num l)) ∧ Below w.heap.size w w' := by
  have hsz := S_size l
  have HH := Lib.hid (hasDigits_any l hb w hG)
  have HT2 := Lib.hid (S_toList l)
  have HE : Hid (num l = (l == [48] || (decide (l.length ≤ 18) && (decide (0 < l.length) && l.all isD) && l.headD 0 != 48))) := Lib.hid (by
    unfold num
    by_cases h : l = [48]
    · subst h; rfl
    · have h1 : (l == [48]) = false := by simpa using h
      rw [h1]
      cases l with
      | nil => rfl
      | cons c t =>
        have h1 : (some c != some (48 : UInt8)) = (c != 48) := by cases h : (c != 48) <;> simp_all
        simp only [List.head?_cons, List.headD_cons, h1, Bool.false_or]
        cases (c != 48) <;> cases List.all (c :: t) isD <;> simp)
  clear hG
  by_cases h48 : (S l).toList = [48]
  · go_enter Tryz.func115, Tryz.ntmps115
    go_wp2_with fail
    go_ret
    refine ⟨ret_bool ?_, Below.refl _ _⟩
    rw [HE.out, ← HT2.out, h48]; rfl
  · have HE2 : Hid (num l = (decide (l.length ≤ 18) && (decide (0 < l.length) && l.all isD) && l.headD 0 != 48)) := Lib.hid (by
      rw [HE.out]
      have : (l == [48]) = false := by rw [← HT2.out]; simpa using h48
      rw [this, Bool.false_or])
    have hq : ((S l).toList == [48]) = false := by simpa using h48
    clear h48 HE
    by_cases h18 : l.length ≤ 18
    · by_cases h0 : 0 < l.length
      · have hs0 : 0 < (S l).size := by omega
        have HG0 := Lib.hid (S_get0 l hs0)
        rw [decide_eq_true h0, Bool.true_and] at HH
        rw [decide_eq_true h0, Bool.true_and, decide_eq_true h18, Bool.true_and] at HE2
        generalize l.all isD = q at *
        go_enter Tryz.func115, Tryz.ntmps115
        cases q with
        | true =>
          go_wp2_with fail
          go_at_call 153
          refine HH.out.mono ?_
          rintro e w' ⟨rfl, hb'⟩
          have HB := Lib.hid hb'; clear hb'
          go_wp2_with fail
          go_ret
          refine ⟨ret_bool ?_, HB.out⟩
          rw [HE2.out, HG0.out, nbeq_int _ 48 48 rfl, Bool.true_and]
        | false =>
          go_wp2_with fail
          go_at_call 153
          refine HH.out.mono ?_
          rintro e w' ⟨rfl, hb'⟩
          have HB := Lib.hid hb'; clear hb'
          go_wp2_with fail
          go_ret
          exact ⟨ret_bool (by rw [HE2.out]; rfl), HB.out⟩
      · rw [decide_eq_false h0, Bool.false_and] at HH
        rw [decide_eq_false h0, Bool.false_and, Bool.and_false, Bool.false_and] at HE2
        go_enter Tryz.func115, Tryz.ntmps115
        go_wp2_with fail
        go_at_call 153
        refine HH.out.mono ?_
        rintro e w' ⟨rfl, hb'⟩
        have HB := Lib.hid hb'; clear hb'
        go_wp2_with fail
        go_ret
        exact ⟨ret_bool HE2.out.symm, HB.out⟩
    · rw [decide_eq_false h18, Bool.false_and, Bool.false_and] at HE2
      go_enter Tryz.func115, Tryz.ntmps115
      go_wp2_with fail
      go_ret
      exact ⟨ret_bool HE2.out.symm, Below.refl _ _⟩
end Go.Proofs.YtdhdjfkknfbmhaaGreatDoor
