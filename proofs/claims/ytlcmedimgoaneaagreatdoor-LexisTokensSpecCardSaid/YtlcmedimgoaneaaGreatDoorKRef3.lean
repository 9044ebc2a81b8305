/- The specification's Time. -/
import Derived.Test.YtlcmedimgoaneaaGreatDoorKRef2
namespace Go.Proofs.YtlcmedimgoaneaaGreatDoor
open Go.RowKit

theorem fraction_any (l : Bs) (hb : l.length ≤ 140737488351232) (w : World) :
    Calls Tryz.prog 44 #[.string (S l)] w fun e w' => e = .returned (.int .i64 (fracI l)) ∧ w' = w := by
  have hsz := S_size l
  by_cases h0 : l.length < 1 ∨ 6 < l.length
  · have HE : Hid (fracI l = -1) := Lib.hid (by unfold fracI frac; rw [if_neg (fun h => by omega)])
    generalize fracI l = r at *
    rcases h0 with h0 | h0
    all_goals
      go_enter Tryz.func44, Tryz.ntmps44
      go_wp2_with fail
      go_ret
      exact ⟨ret_int HE.out.symm, rfl⟩
  · have h1 : 1 ≤ l.length := by omega
    have h6 : l.length ≤ 6 := by omega
    have HE : Hid (fracI l = if l.all isD = true then ((val l * 10 ^ (6 - l.length) : Nat) : Int) else -1) := Lib.hid (by
      unfold fracI frac
      by_cases h : l.all isD = true
      · rw [if_pos ⟨h1, h6, h⟩, if_pos h]
      · rw [if_neg (fun hh => h hh.2.2), if_neg h])
    clear h0
    generalize fracI l = r at *
    go_enter Tryz.func44, Tryz.ntmps44
    go_wp2_with fail
    go_loopw [2, 3] (fun z i wr => z = .int .i64 0 ∧ ∃ j : Nat, j ≤ l.length ∧ i = .int .i64 j ∧ Hid ((l.take j).all isD = true) ∧ wr = w) (fun _ i _ => l.length - (intOf i).toNat)
    case atStart => exact ⟨rfl, 0, Nat.zero_le _, rfl, Lib.hid rfl, rfl⟩
    case round =>
      obtain ⟨rfl, j, hj, rfl, HT, rfl⟩ := hrel
      by_cases hlt : j < l.length
      · have HG := Lib.hid (S_get l j (by omega))
        have HA := Lib.hid (all_take (p := isD) hlt)
        have HN := Lib.hid (all_no (p := isD) hlt)
        have HC := Lib.hid (digit_any l[j] wr)
        rw [← HG.out] at HA HN HC
        generalize isD (S l)[j] = f at *
        go_wp2_with fail
        go_at_call 66
        refine HC.out.mono ?_
        rintro e w' ⟨rfl, rfl⟩
        cases f with
        | true =>
          go_wp2_with fail
          go_round
          case rel => exact ⟨rfl, j + 1, by omega, by go_num, Lib.hid (by rw [HA.out, HT.out]; rfl), trivial⟩
          case measure => simp [intOf]; omega
        | false =>
          go_wp2_with fail
          go_ret
          exact ⟨ret_int (by rw [HE.out, HN.out (by first | rfl | trivial)]; rfl), rfl⟩
      · have hd : l.all isD = true := by have := HT.out; rwa [List.take_of_length_le (by omega)] at this
        have HN := Lib.hid (number_any l (by omega) hd wr)
        have hv : val l < 10 ^ l.length := val_lt _ l rfl hd
        have HV : Hid (val l < 10 ^ l.length) := Lib.hid hv
        have hv6 : val l < 1000000 := Nat.lt_of_lt_of_le hv (Nat.pow_le_pow_right (by decide) h6)
        rw [if_pos hd] at HE
        clear hd hv
        generalize val l = v at *
        go_wp2_with fail
        go_at_call 46
        refine HN.out.mono ?_
        rintro e w' ⟨rfl, rfl⟩
        go_wp2_with fail
        go_loopw [4, 5] (fun n i wr => ∃ k q : Nat, l.length + k ≤ 6 ∧ i = .int .i64 (l.length + k : Nat) ∧ n = .int .i64 q ∧ Hid (q = v * 10 ^ k) ∧ q < 1000000 ∧ Hid (q < 10 ^ (l.length + k)) ∧ wr = w') (fun _ i _ => 6 - (intOf i).toNat)
        case atStart => exact ⟨0, v, by omega, rfl, rfl, Lib.hid (by simp), hv6, HV, rfl⟩
        case round =>
          obtain ⟨k, q, hk, rfl, rfl, HQ, hq, HL, rfl⟩ := hrel
          by_cases hlt2 : l.length + k < 6
          · have hq5 : q < 100000 := Nat.lt_of_lt_of_le HL.out (show 10 ^ (l.length + k) ≤ 10 ^ 5 from Nat.pow_le_pow_right (by decide) (by omega))
            go_wp2_with fail
            go_round
            case rel =>
              refine ⟨k + 1, 10 * q, by omega, by go_num, by go_num, Lib.hid ?_, by omega, Lib.hid ?_, trivial⟩
              · rw [HQ.out, Nat.pow_succ, Nat.mul_comm 10, Nat.mul_assoc]
              · rw [← Nat.add_assoc, Nat.pow_succ]; have := HL.out; omega
            case measure => simp [intOf]; omega
          · have HF : Hid (r = (q : Int)) := Lib.hid (by rw [HE.out, HQ.out, show 6 - l.length = k by omega])
            go_wp2_with fail
            go_ret
            exact ⟨ret_int HF.out.symm, rfl⟩

theorem ret2_eq {a a' b b' : Int} (h : a = a') (h2 : b = b') : Ending.returned (.tuple #[.int .i64 a, .int .i64 b]) = .returned (.tuple #[.int .i64 a', .int .i64 b']) := by rw [h, h2]

/-- The end of tR, over the seconds. -/
def tF (neg : Bool) (x mi : Int) : Int × Int :=
  if 1099511627776 < x then (0, 50) else if 1099511627776 < 1000000 * x + mi ∨ (neg = true ∧ 1000000 * x + mi = 0) then (0, 50) else (if neg = true then -(1000000 * x + mi) else 1000000 * x + mi, 0)
theorem tR_bad {neg pt colon twice nf : Bool} {len : Nat} {mi v n m : Int} (h : nf = false ∨ 13 < len ∨ mi < 0 ∨ (colon = false ∧ pt = false)) : tR neg pt colon twice nf len mi v n m = (0, 50) := by
  unfold tR; rw [if_pos h]
theorem tR_ok {neg pt colon twice nf : Bool} {len : Nat} {mi v n m : Int} (h : ¬ (nf = false ∨ 13 < len ∨ mi < 0 ∨ (colon = false ∧ pt = false))) : tR neg pt colon twice nf len mi v n m =
    if colon = true ∧ n < 0 then (0, 50) else if colon = true ∧ twice = true ∧ m < 0 then (0, 50) else tF neg (if colon = true then (if twice = true then 60 * (60 * v + n) + m else 60 * v + n) else v) mi := by
  unfold tR tF; rw [if_neg h]
end Go.Proofs.YtlcmedimgoaneaaGreatDoor
