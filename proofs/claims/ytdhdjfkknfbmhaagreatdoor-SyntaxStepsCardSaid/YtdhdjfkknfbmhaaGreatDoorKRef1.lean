/- The specification's numerals. -/
import Derived.Test.YtdhdjfkknfbmhaaGreatDoorKBase
namespace Go.Proofs.YtdhdjfkknfbmhaaGreatDoor
open Go.RowKit

theorem inner_any (c : UInt8) (w : World) :
    Calls Tryz.prog 142 #[.int .u8 c.toNat] w fun e w' => e = .returned (.bool (isW c)) ∧ w' = w := by
  have hc := byte_le c
  have HL := Lib.hid (letter_any c w)
  have HD := Lib.hid (digit_any c w)
  have HE : Hid (isW c = (isL c || isD c || c == 95)) := Lib.hid rfl
  have H95 : Hid ((c == 95) = decide (c.toNat = 95)) := Lib.hid (beq_nat c 95)
  generalize isW c = r at *
  generalize (c == 95) = q at *
  generalize isL c = a at *
  generalize isD c = b at *
  generalize c.toNat = n at *
  go_enter Tryz.func142, Tryz.ntmps142
  cases a with
  | true =>
    go_wp2_with (go_at_call 143; refine HL.out.mono ?_; rintro e w' ⟨rfl, rfl⟩)
    go_ret
    exact ⟨ret_bool (by rw [HE.out]; rfl), rfl⟩
  | false =>
    cases b with
    | true =>
      go_wp2_with (first | (go_at_call 143; refine HL.out.mono ?_; rintro e w' ⟨rfl, rfl⟩) | (go_at_call 174; refine HD.out.mono ?_; rintro e w' ⟨rfl, rfl⟩))
      go_ret
      exact ⟨ret_bool (by rw [HE.out]; rfl), rfl⟩
    | false =>
      go_wp2_with (first | (go_at_call 143; refine HL.out.mono ?_; rintro e w' ⟨rfl, rfl⟩) | (go_at_call 174; refine HD.out.mono ?_; rintro e w' ⟨rfl, rfl⟩))
      go_ret
      refine ⟨ret_bool ?_, rfl⟩
      rw [HE.out, H95.out]
      exact beq_int n 95

theorem wordR_any (l : Bs) (hb : l.length ≤ 140737488351232) (w : World) :
    Calls Tryz.prog 102 #[.string (S l)] w fun e w' => e = .returned (.bool (l.all isW && isL (l.headD 0))) ∧ w' = w := by
  have hsz := S_size l
  go_enter Tryz.func102, Tryz.ntmps102
  go_wp2_with fail
  go_loopw [3] (fun i wr => ∃ j : Nat, j ≤ l.length ∧ i = .int .i64 j ∧ Hid ((l.take j).all isW = true) ∧ wr = w) (fun i _ => l.length - (intOf i).toNat)
  case atStart => exact ⟨0, Nat.zero_le _, rfl, Lib.hid rfl, rfl⟩
  case round =>
    obtain ⟨j, hj, rfl, HT, rfl⟩ := hrel
    by_cases hlt : j < l.length
    · have HG := Lib.hid (S_get l j (by omega))
      have HA := Lib.hid (all_take (p := isW) hlt)
      have HN := Lib.hid (all_no (p := isW) hlt)
      have HC := Lib.hid (inner_any l[j] wr)
      rw [← HG.out] at HA HN HC
      generalize isW (S l)[j] = f at *
      go_wp2_with fail
      go_at_call 142
      refine HC.out.mono ?_
      rintro e w' ⟨rfl, rfl⟩
      cases f with
      | true =>
        go_wp2_with fail
        go_round
        case rel => exact ⟨j + 1, by omega, by go_num, Lib.hid (by rw [HA.out, HT.out]; rfl), trivial⟩
        case measure => simp [intOf]; omega
      | false =>
        go_wp2_with fail
        go_ret
        exact ⟨ret_bool (by rw [HN.out (by first | rfl | trivial)]; rfl), rfl⟩
    · have HW : Hid (l.all isW = true) := Lib.hid (by have := HT.out; rwa [List.take_of_length_le (by omega)] at this)
      by_cases h0 : 0 < l.length
      · have HG := Lib.hid (S_get l 0 (by omega))
        have HC := Lib.hid (letter_any l[0] wr)
        rw [← HG.out] at HC
        go_wp2_with fail
        go_at_call 143
        refine HC.out.mono ?_
        rintro e w' ⟨rfl, rfl⟩
        go_wp2_with fail
        go_ret
        refine ⟨ret_bool ?_, rfl⟩
        rw [HW.out, HG.out]
        match l, h0 with
        | c :: t, _ => rfl
      · go_wp2_with fail
        go_ret
        refine ⟨ret_bool ?_, rfl⟩
        have : l = [] := List.eq_nil_of_length_eq_zero (by omega)
        subst this; rfl

theorem val_take_lt {l : Bs} (hl : l.length ≤ 18) (hd : l.all isD = true) {j : Nat} (h : j < l.length) : val (l.take (j + 1)) = 10 * val (l.take j) + (l[j].toNat - 48) ∧ 48 ≤ l[j].toNat ∧ l[j].toNat ≤ 57 ∧ val (l.take j) < 10 ^ 17 := by
  have hb := isD_bounds (List.all_eq_true.1 hd l[j] (List.getElem_mem h))
  refine ⟨by rw [List.take_succ_eq_append_getElem h, val_snoc], hb.1, hb.2, ?_⟩
  have := val_lt j (l.take j) (by rw [List.length_take]; omega) (by rw [List.all_eq_true] at hd ⊢; exact fun x hx => hd x (List.mem_of_mem_take hx))
  exact Nat.lt_of_lt_of_le this (Nat.pow_le_pow_right (by decide) (by omega))

theorem num_eq (l : Bs) : num l = (l.all isD && (decide (0 < l.length) && (decide (l.length ≤ 18) && (l == [48] || l.headD 0 != 48)))) := by
  unfold num
  cases l with
  | nil => rfl
  | cons c t =>
    simp only [List.length_cons, List.head?_cons, List.headD_cons]
    have h1 : (some c != some (48 : UInt8)) = (c != 48) := by cases h : (c != 48) <;> simp_all
    rw [h1]
    cases (List.all (c :: t) isD) <;> simp

theorem int_head (l : Bs) (h : l.headD 0 = 45) (hne : 0 < l.length) : int l = (num l.tail && l != [45, 48]) := by
  match l, hne with
  | c :: t, _ =>
    simp only [List.headD_cons] at h
    subst h
    unfold int
    simp only [List.head?_cons, if_true, List.tail_cons]
    congr 1
theorem int_other (l : Bs) (h : l.headD 0 ≠ 45) : int l = num l := by
  unfold int
  rw [if_neg]
  cases l with
  | nil => simp
  | cons c t => simpa using h
theorem drop_tail (l : Bs) : (l.take l.length).drop 1 = l.tail := by simp

end Go.Proofs.YtdhdjfkknfbmhaaGreatDoor
