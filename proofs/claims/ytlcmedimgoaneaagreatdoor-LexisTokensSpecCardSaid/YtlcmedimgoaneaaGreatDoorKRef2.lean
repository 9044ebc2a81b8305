/- The specification's times. -/
import Derived.Test.YtlcmedimgoaneaaGreatDoorKRef1
import Derived.Deep.QuietTactic
namespace Go.Proofs.YtlcmedimgoaneaaGreatDoor
open Go.RowKit


theorem split_at (l : Bs) (j : Nat) (h : j < l.length) : l = l.take j ++ l[j] :: l.drop (j + 1) := by
  rw [List.getElem_cons_drop, List.take_append_drop]

theorem cutR_any (l : Bs) (c : UInt8) (hb : l.length ≤ 140737488351232) (w : World) :
    Calls Tryz.prog 43 #[.string (S l), .int .u8 c.toNat] w fun e w' => e = .returned (.tuple #[.string (S (cutB c l).1), .string (S (cutB c l).2.1), .bool (cutB c l).2.2]) ∧ Below w.heap.size w w' := by
  have hsz := S_size l
  go_enter Tryz.func43, Tryz.ntmps43
  go_wp2_with fail
  go_loopw [7] (fun i wr => ∃ j : Nat, j ≤ l.length ∧ i = .int .i64 j ∧ Hid (∀ x ∈ l.take j, x ≠ c) ∧ wr = w) (fun i _ => l.length - (intOf i).toNat)
  case atStart => exact ⟨0, Nat.zero_le _, rfl, Lib.hid (by simp), rfl⟩
  case round =>
    obtain ⟨j, hj, rfl, HT, rfl⟩ := hrel
    by_cases hlt : j < l.length
    · have hjs : j < (S l).size := by omega
      have HG := Lib.hid (S_get l j hjs)
      have HS := Lib.hid (split_at l j hlt)
      have HQ : Hid (((S l)[j]'hjs).toNat = c.toNat ↔ l[j]'hlt = c) := Lib.hid (by rw [HG.out]; exact toNat_eq)
      have HX : Hid ((S l).extract 0 j = S (l.take j)) := Lib.hid (by rw [S_extract]; simp)
      have HY : Hid ((S l).extract (j + 1) l.length = S (l.drop (j + 1))) := Lib.hid (by rw [S_extract]; simp)
      by_cases hc : ((S l)[j]'hjs).toNat = c.toNat
      · go_wp2_with fail
        go_region
        go_wp2_with fail
        go_ret3
        have h1 := HQ.out.1 hc
        have h2 := cutB_found (c := c) (b := l.drop (j + 1)) HT.out
        have h3 := HS.out
        rw [h1] at h3
        rw [HX.out, HY.out]
        have h4 : cutB c l = (l.take j, l.drop (j + 1), true) := by rw [← h2]; congr 1
        rw [h4]
        exact ⟨rfl, (Below.refl _ _).drew⟩
      · go_wp2_with fail
        go_round
        case rel =>
          refine ⟨j + 1, by omega, by go_num, Lib.hid ?_, trivial⟩
          intro x hx
          rw [List.take_succ_eq_append_getElem hlt, List.mem_append] at hx
          rcases hx with hx | hx
          · exact HT.out x hx
          · have : x = l[j]'hlt := List.mem_singleton.1 hx
            rw [this]
            exact fun h => hc (HQ.out.2 h)
        case measure => simp [intOf]; omega
    · go_wp2_with fail
      go_ret3
      have h1 := HT.out
      rw [List.take_of_length_le (by omega)] at h1
      rw [cutB_none h1]
      exact ⟨rfl, Below.refl _ _⟩

theorem sixty_any (l : Bs) (hb : l.length ≤ 140737488351232) (w : World) :
    Calls Tryz.prog 47 #[.string (S l)] w fun e w' => e = .returned (.int .i64 (sixI l)) ∧ w' = w := by
  have hsz := S_size l
  by_cases h2 : l.length = 2
  · match l, h2 with
    | [a, b], _ =>
      have HA := Lib.hid (S_get [a, b] 0 (by simp [S_size]))
      have HB := Lib.hid (S_get [a, b] 1 (by simp [S_size]))
      have HCA := Lib.hid (digit_any a w)
      have HCB := Lib.hid (digit_any b w)
      have HN : Hid (isD a = true → isD b = true → Calls Tryz.prog 46 #[.string (S [a, b])] w fun e w' => e = .returned (.int .i64 (val [a, b])) ∧ w' = w) := Lib.hid fun h1 h2 => number_any [a, b] (by simp) (by simp [h1, h2]) w
      have HE : Hid (sixI [a, b] = if isD a = true ∧ isD b = true ∧ a.toNat ≤ 53 then (val [a, b] : Int) else -1) := Lib.hid (by
        unfold sixI six
        simp only [List.length_cons, List.length_nil, List.all_cons, List.all_nil, Bool.and_true, Bool.and_eq_true, List.headD_cons, true_and, and_assoc]
        by_cases h : isD a = true ∧ isD b = true ∧ a.toNat ≤ 53
        · rw [if_pos h, if_pos h]
        · rw [if_neg h, if_neg h])
      simp only [List.getElem_cons_zero, List.getElem_cons_succ] at HA HB
      simp only [List.length_cons, List.length_nil] at hsz
      generalize isD a = fa at *
      generalize isD b = fb at *
      generalize val [a, b] = v at *
      generalize sixI [a, b] = r at *
      rw [← HA.out] at HCA HE
      rw [← HB.out] at HCB
      have hs0 : 0 < (S [a, b]).size := by omega
      go_enter Tryz.func47, Tryz.ntmps47
      cases fa with
      | false =>
        go_wp2_with fail
        go_at_call 66
        refine HCA.out.mono ?_
        rintro e w' ⟨rfl, rfl⟩
        go_wp2_with fail
        go_ret
        exact ⟨ret_int (by rw [HE.out]; rfl), rfl⟩
      | true =>
        cases fb with
        | false =>
          go_wp2_with fail
          go_at_call 66
          refine HCA.out.mono ?_
          rintro e w' ⟨rfl, rfl⟩
          go_wp2_with fail
          go_at_call 66
          refine HCB.out.mono ?_
          rintro e w' ⟨rfl, rfl⟩
          go_wp2_with fail
          go_ret
          exact ⟨ret_int (by rw [HE.out]; simp), rfl⟩
        | true =>
          by_cases h53 : ((S [a, b])[0]'hs0).toNat ≤ 53
          · go_wp2_with fail
            go_at_call 66
            refine HCA.out.mono ?_
            rintro e w' ⟨rfl, rfl⟩
            go_wp2_with fail
            go_at_call 66
            refine HCB.out.mono ?_
            rintro e w' ⟨rfl, rfl⟩
            go_wp2_with fail
            go_at_call 46
            refine (HN.out (by first | rfl | trivial) (by first | rfl | trivial)).mono ?_
            rintro e w' ⟨rfl, rfl⟩
            go_wp2_with fail
            go_ret
            exact ⟨ret_int (by rw [HE.out, if_pos (by exact ⟨by trivial, by trivial, h53⟩)]), rfl⟩
          · go_wp2_with fail
            go_at_call 66
            refine HCA.out.mono ?_
            rintro e w' ⟨rfl, rfl⟩
            go_wp2_with fail
            go_at_call 66
            refine HCB.out.mono ?_
            rintro e w' ⟨rfl, rfl⟩
            go_wp2_with fail
            go_ret
            exact ⟨ret_int (by rw [HE.out, if_neg (fun h => h53 h.2.2)]), rfl⟩
  · have HE : Hid (sixI l = -1) := Lib.hid (by unfold sixI six; rw [if_neg (fun h => h2 h.1)])
    generalize sixI l = r at *
    go_enter Tryz.func47, Tryz.ntmps47
    go_wp2_with fail
    go_ret
    exact ⟨ret_int HE.out.symm, rfl⟩
end Go.Proofs.YtlcmedimgoaneaaGreatDoor
