/- The program's readers of words, numbers and signs. -/
import Derived.Test.YtdhdjfkknfbmhaaGreatDoorKNum
namespace Go.Proofs.YtdhdjfkknfbmhaaGreatDoor
open Go.RowKit

theorem wdLen_at : ∀ (r : Bs) (j : Nat), (r.take j).all isW = true → j ≤ r.length → wdLen r = j + wdLen (r.drop j)
  | r, 0, _, _ => by simp
  | [], j + 1, _, h => by simp at h
  | c :: r, j + 1, h, hl => by
    rw [List.take_succ_cons, List.all_cons, Bool.and_eq_true] at h
    rw [wdLen, if_pos h.1, wdLen_at r j h.2 (by simpa using hl), List.drop_succ_cons]
    omega
theorem wdLen_end {r : Bs} {j : Nat} (h : (r.take j).all isW = true) (hj : j < r.length) (hc : isW r[j] = false) : wdLen r = j := by
  rw [wdLen_at r j h (by omega), ← List.getElem_cons_drop hj, wdLen, if_neg (by simp [hc])]; omega
theorem wdLen_all {r : Bs} (h : r.all isW = true) : wdLen r = r.length := by
  rw [wdLen_at r r.length (by rw [List.take_of_length_le (Nat.le_refl _)]; exact h) (Nat.le_refl _)]; simp [wdLen]

theorem wordLength_any (c : UInt8) (r : Bs) (hb : r.length ≤ 100000) (w : World) (hG : Gl w) :
    Calls Tryz.prog 106 #[.string (S (c :: r))] w fun e w' => e = .returned (.int .i64 (wdLen r + 1 : Nat)) ∧ w' = w := by
  have hsz := S_size (c :: r)
  rw [List.length_cons] at hsz
  have HG := Lib.hid hG
  clear hG
  go_enter Tryz.func106, Tryz.ntmps106
  go_wp2_with fail
  go_loopw [3] (fun n wr => ∃ j : Nat, j ≤ r.length ∧ n = .int .i64 (j + 1 : Nat) ∧ Hid ((r.take j).all isW = true) ∧ wr = w) (fun n _ => r.length + 1 - (intOf n).toNat)
  case atStart => exact ⟨0, Nat.zero_le _, rfl, Lib.hid rfl, rfl⟩
  case round =>
    obtain ⟨j, hj, rfl, HT, rfl⟩ := hrel
    by_cases hlt : j < r.length
    · have hjs : j + 1 < (S (c :: r)).size := by omega
      have HGt := Lib.hid (S_get (c :: r) (j + 1) hjs)
      have HA := Lib.hid (all_take (p := isW) hlt)
      have HN := Lib.hid (fun h => wdLen_end HT.out hlt h)
      have HC := Lib.hid (inWord_any (r[j]'hlt) wr HG.out)
      have he : (S (c :: r))[j + 1]'hjs = r[j]'hlt := by rw [HGt.out]; rfl
      rw [← he] at HA HN HC
      clear he
      generalize isW ((S (c :: r))[j + 1]'hjs) = f at *
      go_wp2_with fail
      go_at_call 146
      refine HC.out.mono ?_
      rintro e w' ⟨rfl, rfl⟩
      cases f with
      | true =>
        go_wp2_with fail
        go_round
        case rel => exact ⟨j + 1, by omega, by go_num, Lib.hid (by rw [HA.out, HT.out]; rfl), trivial⟩
        case measure => simp [intOf]; omega
      | false =>
        go_wp2_with fail
        go_ret
        exact ⟨ret_int (by rw [HN.out (by first | rfl | trivial)]; omega), rfl⟩
    · have HW : Hid (wdLen r = j) := Lib.hid (by
        have := HT.out
        rw [List.take_of_length_le (by omega)] at this
        rw [wdLen_all this]; omega)
      go_wp2_with fail
      go_ret
      exact ⟨ret_int (by rw [HW.out]), rfl⟩

theorem isPlain_any (c : UInt8) (w : World) :
    Calls Tryz.prog 159 #[.int .u8 c.toNat] w fun e w' => e = .returned (.bool (plain c)) ∧ w' = w := by
  have hc := byte_le c
  have HE : Hid (plain c = (decide (32 ≤ c.toNat) && decide (c.toNat ≤ 126) && !decide (c.toNat = 34) && !decide (c.toNat = 92))) := Lib.hid (by
    unfold plain
    rw [show (c != 34) = !(c == 34) from rfl, show (c != 92) = !(c == 92) from rfl, beq_nat, beq_nat]; rfl)
  generalize plain c = r at *
  generalize c.toNat = n at *
  go_enter Tryz.func159, Tryz.ntmps159
  go_wp2_with fail
  all_goals
    go_ret
    refine ⟨ret_bool ?_, rfl⟩
    rw [HE.out, Bool.eq_iff_iff]
    simp
    try omega

/-- Whether a `:` or a `.` that a digit follows begins here. -/
def jn (r : Bs) : Bool := (r.headD 0 == 58 || r.headD 0 == 46) && isD (r.tail.headD 0)
theorem joinsDigit_any (c : UInt8) (r : Bs) (hb : r.length ≤ 100000) (w : World) (hG : Gl w) :
    Calls Tryz.prog 148 #[.string (S (c :: r))] w fun e w' => e = .returned (.bool (jn (c :: r))) ∧ w' = w := by
  have hsz := S_size (c :: r)
  rw [List.length_cons] at hsz
  have hs0 : 0 < (S (c :: r)).size := by omega
  have HGt := Lib.hid (S_get0 (c :: r) hs0)
  have HX : Hid ((S (c :: r)).extract 1 (r.length + 1) = S r) := Lib.hid (by rw [S_extract]; simp)
  have HC := Lib.hid (beginsWith_any 2 (by decide) r (by omega) w hG)
  rw [← HX.out] at HC
  have HE : Hid (jn (c :: r) = ((c == 58 || c == 46) && inC 2 (r.headD 0))) := Lib.hid rfl
  have H1 : Hid ((c == 58) = decide (((S (c :: r))[0]'hs0).toNat = 58)) := Lib.hid (by rw [HGt.out]; exact beq_nat c 58)
  have H2 : Hid ((c == 46) = decide (((S (c :: r))[0]'hs0).toNat = 46)) := Lib.hid (by rw [HGt.out]; exact beq_nat c 46)
  clear hG
  generalize inC 2 (r.headD 0) = q at *
  generalize jn (c :: r) = R at *
  by_cases h58 : ((S (c :: r))[0]'hs0).toNat = 58
  · go_enter Tryz.func148, Tryz.ntmps148
    go_wp2_with fail
    go_at_call 105
    refine HC.out.mono ?_
    rintro e w' ⟨rfl, rfl⟩
    go_wp2_with fail
    go_ret
    exact ⟨ret_bool (by rw [HE.out, H1.out, decide_eq_true h58]; simp), rfl⟩
  · by_cases h46 : ((S (c :: r))[0]'hs0).toNat = 46
    · go_enter Tryz.func148, Tryz.ntmps148
      go_wp2_with fail
      go_at_call 105
      refine HC.out.mono ?_
      rintro e w' ⟨rfl, rfl⟩
      go_wp2_with fail
      go_ret
      exact ⟨ret_bool (by rw [HE.out, H2.out, decide_eq_true h46]; simp), rfl⟩
    · go_enter Tryz.func148, Tryz.ntmps148
      go_wp2_with fail
      go_ret
      exact ⟨ret_bool (by rw [HE.out, H1.out, H2.out, decide_eq_false h58, decide_eq_false h46]; rfl), rfl⟩

def nc (r : Bs) : Bool := isW (r.headD 0) || jn r
theorem numLen_cons (c : UInt8) (r : Bs) : numLen (c :: r) = if nc (c :: r) = true then numLen r + 1 else 0 := by
  rw [numLen]
  have h : (isW c = true ∨ ((c = 58 ∨ c = 46) ∧ isD (r.headD 0) = true)) ↔ nc (c :: r) = true := by
    simp [nc, jn]
  by_cases hh : nc (c :: r) = true
  · rw [if_pos hh, if_pos (h.2 hh)]
  · rw [if_neg hh, if_neg (fun x => hh (h.1 x))]
theorem numLen_at : ∀ (j : Nat) (r : Bs), (∀ i, i < j → nc (r.drop i) = true) → j ≤ r.length → numLen r = j + numLen (r.drop j)
  | 0, r, _, _ => by simp
  | j + 1, [], _, h => by simp at h
  | j + 1, c :: r, h, hl => by
    have h0 : nc (c :: r) = true := h 0 (by omega)
    rw [numLen_cons, if_pos h0, numLen_at j r (fun i hi => by have := h (i + 1) (by omega); rwa [List.drop_succ_cons] at this) (by simpa using hl), List.drop_succ_cons]
    omega
theorem numLen_end {r : Bs} {j : Nat} (h : ∀ i, i < j → nc (r.drop i) = true) (hj : j < r.length) (hc : nc (r.drop j) = false) : numLen r = j := by
  rw [numLen_at j r h (by omega), ← List.getElem_cons_drop hj, numLen_cons, if_neg (by rw [List.getElem_cons_drop hj, hc]; decide)]; rfl
theorem numLen_all {r : Bs} (h : ∀ i, i < r.length → nc (r.drop i) = true) : numLen r = r.length := by
  rw [numLen_at r.length r h (Nat.le_refl _)]; simp [numLen]

theorem numberLength_any (c : UInt8) (r : Bs) (hb : r.length ≤ 100000) (w : World) (hG : Gl w) :
    Calls Tryz.prog 108 #[.string (S (c :: r))] w fun e w' => e = .returned (.int .i64 (numLen r + 1 : Nat)) ∧ w' = w := by
  have hsz := S_size (c :: r)
  rw [List.length_cons] at hsz
  have HG := Lib.hid hG
  clear hG
  go_enter Tryz.func108, Tryz.ntmps108
  go_wp2_with fail
  go_loopw [3] (fun n wr => ∃ j : Nat, j ≤ r.length ∧ n = .int .i64 (j + 1 : Nat) ∧ Hid (∀ i, i < j → nc (r.drop i) = true) ∧ wr = w) (fun n _ => r.length + 1 - (intOf n).toNat)
  case atStart => exact ⟨0, Nat.zero_le _, rfl, Lib.hid (by intro i hi; omega), rfl⟩
  case round =>
    obtain ⟨j, hj, rfl, HT, rfl⟩ := hrel
    by_cases hlt : j < r.length
    · have hjs : j + 1 < (S (c :: r)).size := by omega
      have HGt := Lib.hid (S_get (c :: r) (j + 1) hjs)
      have HN := Lib.hid (fun h => numLen_end HT.out hlt h)
      have HA : Hid (nc (r.drop j) = true → ∀ i, i < j + 1 → nc (r.drop i) = true) := Lib.hid fun h i hi => by
        by_cases hij : i < j
        · exact HT.out i hij
        · rw [show i = j by omega]; exact h
      have hcons : r.drop j = r[j]'hlt :: r.drop (j + 1) := (List.getElem_cons_drop hlt).symm
      have HC := Lib.hid (inWord_any (r[j]'hlt) wr HG.out)
      have HJ := joinsDigit_any (r[j]'hlt) (r.drop (j + 1)) (by rw [List.length_drop]; omega) wr HG.out
      rw [← hcons] at HJ
      have HX : Hid ((S (c :: r)).extract (j + 1) (r.length + 1) = S (r.drop j)) := Lib.hid (by rw [S_extract]; simp)
      rw [← HX.out] at HJ
      have HJ' := Lib.hid HJ
      clear HJ
      have he : (S (c :: r))[j + 1]'hjs = r[j]'hlt := by rw [HGt.out]; rfl
      have HE : Hid (nc (r.drop j) = (isW ((S (c :: r))[j + 1]'hjs) || jn (r.drop j))) := Lib.hid (by rw [he, hcons]; rfl)
      rw [← he] at HC
      clear he hcons
      generalize isW ((S (c :: r))[j + 1]'hjs) = f at *
      generalize jn (r.drop j) = g at *
      cases f with
      | true =>
        go_wp2_with fail
        go_at_call 146
        refine HC.out.mono ?_
        rintro e w' ⟨rfl, rfl⟩
        go_wp2_with fail
        go_round
        case rel => exact ⟨j + 1, by omega, by go_num, Lib.hid (HA.out (by rw [HE.out]; rfl)), trivial⟩
        case measure => simp [intOf]; omega
      | false =>
        cases g with
        | true =>
          go_wp2_with fail
          go_at_call 146
          refine HC.out.mono ?_
          rintro e w' ⟨rfl, rfl⟩
          go_wp2_with fail
          go_at_call 148
          refine HJ'.out.mono ?_
          rintro e w' ⟨rfl, rfl⟩
          go_wp2_with fail
          go_round
          case rel => exact ⟨j + 1, by omega, by go_num, Lib.hid (HA.out (by rw [HE.out]; rfl)), trivial⟩
          case measure => simp [intOf]; omega
        | false =>
          go_wp2_with fail
          go_at_call 146
          refine HC.out.mono ?_
          rintro e w' ⟨rfl, rfl⟩
          go_wp2_with fail
          go_at_call 148
          refine HJ'.out.mono ?_
          rintro e w' ⟨rfl, rfl⟩
          go_wp2_with fail
          go_ret
          exact ⟨ret_int (by rw [HN.out (by rw [HE.out]; rfl)]; omega), rfl⟩
    · have HW : Hid (numLen r = j) := Lib.hid (by
        have h1 := numLen_all (r := r) (fun i hi => HT.out i (by omega))
        omega)
      go_wp2_with fail
      go_ret
      exact ⟨ret_int (by rw [HW.out]), rfl⟩
end Go.Proofs.YtdhdjfkknfbmhaaGreatDoor
