/- The specification's Time, whole. -/
import Derived.Test.YtlcmedimgoaneaaGreatDoorKRef3a
import Derived.Test.YtlcmedimgoaneaaGreatDoorKRef3b
import Derived.Test.YtlcmedimgoaneaaGreatDoorKRef3c
import Derived.Test.YtlcmedimgoaneaaGreatDoorKTime2
namespace Go.Proofs.YtlcmedimgoaneaaGreatDoor
open Go.RowKit

theorem sixI_bounds (l : Bs) : -1 ≤ sixI l ∧ sixI l < 60 := by
  unfold sixI
  cases h : six l with
  | none => simp
  | some n =>
    have := six_lt h
    simp only
    omega
theorem fracI_bounds (l : Bs) : -1 ≤ fracI l ∧ fracI l < 1000000 := by
  unfold fracI
  rw [frac_eq]
  split
  · rename_i n h
    split at h
    · rename_i hf
      unfold isFr at hf
      simp only [Bool.and_eq_true, decide_eq_true_eq] at hf
      have := micro_lt hf.1.2 hf.2
      have h2 := Option.some.inj h
      omega
    · simp at h
  · simp

theorem refTime_any (l : Bs) (hl : l.length ≤ 1000000) (w : World) :
    Calls Tryz.prog 23 #[.string (S l)] w fun e w' => e = .returned (.tuple #[.int .i64 (timeT l), .int .i64 (timeE l)]) ∧ Below w.heap.size w w' := by
  have HE := tE_eq l
  have h1 : timeT l = (tE (Lib.hasPrefix l [45]) (absV (Lib.trimPrefix l [45]))).1 := by rw [← HE]
  have h2 : timeE l = (tE (Lib.hasPrefix l [45]) (absV (Lib.trimPrefix l [45]))).2 := by rw [← HE]
  rw [h1, h2]
  clear h1 h2 HE
  have hu : (Lib.trimPrefix l [45]).length ≤ l.length := trimP_len l [45]
  have huv : (Lib.hasPrefix l [45] = true → l.headD 0 = 45 ∧ 0 < l.length ∧ Lib.trimPrefix l [45] = l.tail) ∧ (Lib.hasPrefix l [45] = false → Lib.trimPrefix l [45] = l ∧ l.headD 0 ≠ 45) := by
    unfold Lib.trimPrefix Lib.hasPrefix
    cases l with
    | nil => exact ⟨fun h => by simp [List.isPrefixOf] at h, fun _ => ⟨rfl, by decide⟩⟩
    | cons c t =>
      by_cases h : c = 45
      · subst h
        exact ⟨fun _ => ⟨rfl, by simp, by simp [List.isPrefixOf]⟩, fun h => by simp [List.isPrefixOf] at h⟩
      · have h1 : ((45 : UInt8) == c) = false := by simpa using fun e : 45 = c => h e.symm
        exact ⟨fun h => by simp [List.isPrefixOf, h1] at h, fun _ => ⟨by simp [List.isPrefixOf, h1], by simpa using h⟩⟩
  generalize Lib.hasPrefix l [45] = neg at *
  generalize hue : Lib.trimPrefix l [45] = u at *
  have hc1 := cutB_len 46 u
  have hc2 := cutB_len 58 (cutB 46 u).1
  have hc3 := cutB_len 58 (cutB 58 (cutB 46 u).1).2.1
  have habs : tE neg (absV u) = tR neg (cutB 46 u).2.2 (cutB 58 (cutB 46 u).1).2.2 (cutB 58 (cutB 58 (cutB 46 u).1).2.1).2.2 (num (cutB 58 (cutB 46 u).1).1) (cutB 58 (cutB 46 u).1).1.length
      (if (cutB 46 u).2.2 = true then fracI (cutB 46 u).2.1 else 0) (if num (cutB 58 (cutB 46 u).1).1 = true then (val (cutB 58 (cutB 46 u).1).1 : Int) else 0) (sixI (cutB 58 (cutB 58 (cutB 46 u).1).2.1).1) (sixI (cutB 58 (cutB 58 (cutB 46 u).1).2.1).2.1) := by
    refine (absV_eq u neg).symm.trans ?_
    by_cases hn : num (cutB 58 (cutB 46 u).1).1 = true
    · rw [if_pos hn]
    · have hn' : num (cutB 58 (cutB 46 u).1).1 = false := by simpa using hn
      rw [tR_bad (Or.inl hn'), tR_bad (Or.inl hn')]
  rw [habs]
  have K1 : Hid (∀ w, Calls Tryz.prog 43 #[.string (S u), .int .u8 46] w fun e w' => e = .returned (.tuple #[.string (S (cutB 46 u).1), .string (S (cutB 46 u).2.1), .bool (cutB 46 u).2.2]) ∧ Below w.heap.size w w') := Lib.hid fun w => cutR_any u 46 (by omega) w
  have K2 : Hid (∀ w, Calls Tryz.prog 44 #[.string (S (cutB 46 u).2.1)] w fun e w' => e = .returned (.int .i64 (if (cutB 46 u).2.2 = true then fracI (cutB 46 u).2.1 else 0)) ∧ w' = w) ∨ (cutB 46 u).2.2 = false := by
    by_cases hp : (cutB 46 u).2.2 = true
    · rw [if_pos hp]; exact Or.inl (Lib.hid fun w => fraction_any _ (by omega) w)
    · exact Or.inr (by simpa using hp)
  have K3 : Hid (∀ w, Calls Tryz.prog 43 #[.string (S (cutB 46 u).1), .int .u8 58] w fun e w' => e = .returned (.tuple #[.string (S (cutB 58 (cutB 46 u).1).1), .string (S (cutB 58 (cutB 46 u).1).2.1), .bool (cutB 58 (cutB 46 u).1).2.2]) ∧ Below w.heap.size w w') := Lib.hid fun w => cutR_any _ 58 (by omega) w
  have K4 : Hid (∀ w, Calls Tryz.prog 45 #[.string (S (cutB 58 (cutB 46 u).1).1)] w fun e w' => e = .returned (.bool (num (cutB 58 (cutB 46 u).1).1)) ∧ w' = w) := Lib.hid fun w => numeral_any _ (by omega) w
  have K5 : num (cutB 58 (cutB 46 u).1).1 = true → Hid (∀ w, Calls Tryz.prog 46 #[.string (S (cutB 58 (cutB 46 u).1).1)] w fun e w' => e = .returned (.int .i64 (if num (cutB 58 (cutB 46 u).1).1 = true then (val (cutB 58 (cutB 46 u).1).1 : Int) else 0)) ∧ w' = w) := fun hn => by
    rw [if_pos hn]; exact Lib.hid fun w => number_any _ (num_all hn).2.2 (num_all hn).1 w
  have K6 : Hid (∀ w, Calls Tryz.prog 43 #[.string (S (cutB 58 (cutB 46 u).1).2.1), .int .u8 58] w fun e w' => e = .returned (.tuple #[.string (S (cutB 58 (cutB 58 (cutB 46 u).1).2.1).1), .string (S (cutB 58 (cutB 58 (cutB 46 u).1).2.1).2.1), .bool (cutB 58 (cutB 58 (cutB 46 u).1).2.1).2.2]) ∧ Below w.heap.size w w') := Lib.hid fun w => cutR_any _ 58 (by omega) w
  have K7 : Hid (∀ w, Calls Tryz.prog 47 #[.string (S (cutB 58 (cutB 58 (cutB 46 u).1).2.1).1)] w fun e w' => e = .returned (.int .i64 (sixI (cutB 58 (cutB 58 (cutB 46 u).1).2.1).1)) ∧ w' = w) := Lib.hid fun w => sixty_any _ (by omega) w
  have K8 : Hid (∀ w, Calls Tryz.prog 47 #[.string (S (cutB 58 (cutB 58 (cutB 46 u).1).2.1).2.1)] w fun e w' => e = .returned (.int .i64 (sixI (cutB 58 (cutB 58 (cutB 46 u).1).2.1).2.1)) ∧ w' = w) := Lib.hid fun w => sixty_any _ (by omega) w
  have hb1 := sixI_bounds (cutB 58 (cutB 58 (cutB 46 u).1).2.1).1
  have hb2 := sixI_bounds (cutB 58 (cutB 58 (cutB 46 u).1).2.1).2.1
  have hb3 := fracI_bounds (cutB 46 u).2.1
  have hmi : (cutB 46 u).2.2 = false → (if (cutB 46 u).2.2 = true then fracI (cutB 46 u).2.1 else 0) = 0 := fun h => by rw [h]; rfl
  have hmb : (if (cutB 46 u).2.2 = true then fracI (cutB 46 u).2.1 else 0) < 1000000 ∧ -1 ≤ (if (cutB 46 u).2.2 = true then fracI (cutB 46 u).2.1 else 0) := by split <;> omega
  have hvb : 0 ≤ (if num (cutB 58 (cutB 46 u).1).1 = true then (val (cutB 58 (cutB 46 u).1).1 : Int) else 0) ∧ (if num (cutB 58 (cutB 46 u).1).1 = true then (val (cutB 58 (cutB 46 u).1).1 : Int) else 0) < 1000000000000000000 ∧
      ((cutB 58 (cutB 46 u).1).1.length ≤ 13 → (if num (cutB 58 (cutB 46 u).1).1 = true then (val (cutB 58 (cutB 46 u).1).1 : Int) else 0) < 10000000000000) := by
    split
    · rename_i hn
      have ha := val_lt _ _ rfl (num_all hn).1
      have h18 : 10 ^ (cutB 58 (cutB 46 u).1).1.length ≤ 10 ^ 18 := Nat.pow_le_pow_right (by decide) (num_all hn).2.2
      refine ⟨by omega, by omega, fun h13 => ?_⟩
      have : 10 ^ (cutB 58 (cutB 46 u).1).1.length ≤ 10 ^ 13 := Nat.pow_le_pow_right (by decide) h13
      omega
    · exact ⟨by omega, by omega, fun _ => by omega⟩
  have hsz := S_size l
  cases neg with
  | true =>
    obtain ⟨h45, h0, htl⟩ := huv.1 rfl
    have hs0 : 0 < (S l).size := by omega
    exact refTime_walkA (S l) (S u) _ _ _ _ _ _ _ _ _ _ _ _ _ _ _ w (by omega) hs0 (by rw [S_get0, h45]; rfl) (by rw [S_extract, hsz, drop_tail, htl]) (S_size _) hmi hmb.1 hmb.2 hvb.1 hvb.2.1 hvb.2.2 hb1.1 hb1.2 hb2.1 hb2.2 K1 K2 K3 K4 K5 K6 K7 K8
  | false =>
    obtain ⟨htl, h45⟩ := huv.2 rfl
    subst htl
    by_cases h0 : 0 < u.length
    · have hs0 : 0 < (S u).size := by omega
      exact refTime_walkB (S u) _ _ _ _ _ _ _ _ _ _ _ _ _ _ _ w (by omega) hs0 (by rw [S_get0]; intro h; exact h45 (UInt8.toNat_inj.1 h)) (S_size _) hmi hmb.1 hmb.2 hvb.1 hvb.2.1 hvb.2.2 hb1.1 hb1.2 hb2.1 hb2.2 K1 K2 K3 K4 K5 K6 K7 K8
    · exact refTime_walkC (S u) _ _ _ _ _ _ _ _ _ _ _ _ _ _ _ w (by omega) (by omega) (S_size _) hmi hmb.1 hmb.2 hvb.1 hvb.2.1 hvb.2.2 hb1.1 hb1.2 hb2.1 hb2.2 K1 K2 K3 K4 K5 K6 K7 K8
end Go.Proofs.YtlcmedimgoaneaaGreatDoor
