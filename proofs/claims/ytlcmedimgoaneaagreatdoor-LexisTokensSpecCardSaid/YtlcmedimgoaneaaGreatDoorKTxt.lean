/- The program's TimeText. -/
import Derived.Test.YtlcmedimgoaneaaGreatDoorKSrc
namespace Go.Proofs.YtlcmedimgoaneaaGreatDoor
open Go.RowKit

def pad (n d : Nat) : Bs := List.replicate (d - (Lib.decDigits n).length) 48 ++ Lib.decDigits n
theorem dec_len : ∀ (k n : Nat), n < 10 ^ (k + 1) → 1 ≤ (Lib.decDigits n).length ∧ (Lib.decDigits n).length ≤ k + 1
  | 0, n, h => by
    have : n < 10 := by simpa using h
    rw [Lib.decDigits, dif_pos this]; simp
  | k + 1, n, h => by
    by_cases h1 : n < 10
    · rw [Lib.decDigits, dif_pos h1]; simp
    · rw [Lib.decDigits, dif_neg h1]
      have := dec_len k (n / 10) (by rw [Nat.pow_succ] at h; omega)
      simp; omega
theorem trimZ_len (l : Bs) : (trimZ l).length ≤ l.length := by
  unfold trimZ
  rw [List.length_reverse]
  have := (List.dropWhile_sublist (l := l.reverse) (fun x => x == 48)).length_le
  rwa [List.length_reverse] at this
theorem lit0 : (ByteArray.mk #[]) = S [] := rfl
theorem lit45 : (ByteArray.mk #[45]) = S [45] := rfl
theorem lit46 : (ByteArray.mk #[46]) = S [46] := rfl
theorem lit58 : (ByteArray.mk #[58]) = S [58] := rfl
set_option maxRecDepth 100000 in
theorem padded_any (n d : Nat) (hn : n < 10 ^ 18) (hd : d ≤ 100) (w : World) (hG : Gl w) :
    Calls Tryz.prog 49 #[.int .i64 n, .int .i64 d] w fun e w' => e = .returned (.string (S (pad n d))) ∧ Below w.heap.size w w' := by
  have hlen := dec_len 17 n hn
  have HI := Lib.hid (itoa_any n (by omega) w hG)
  have HR : Hid (∀ w1, Calls Tryz.prog 80 #[.string ⟨#[48]⟩, .int .i64 (max 0 ((d : Int) - (Lib.decDigits n).length))] w1 fun e w' => e = .returned (.string (S (List.replicate (d - (Lib.decDigits n).length) 48))) ∧ Below w1.heap.size w1 w') := Lib.hid fun w1 => by
    rw [show max 0 ((d : Int) - (Lib.decDigits n).length) = ((d - (Lib.decDigits n).length : Nat) : Int) by omega]
    exact repeat_any _ (by omega) w1
  have HP : Hid (S (List.replicate (d - (Lib.decDigits n).length) 48) ++ S (Lib.decDigits n) = S (pad n d)) := Lib.hid (S_append _ _)
  have hs1 := S_size (Lib.decDigits n)
  have hs2 := S_size (List.replicate (d - (Lib.decDigits n).length) (48 : UInt8))
  rw [List.length_replicate] at hs2
  generalize (Lib.decDigits n).length = m at *
  generalize S (pad n d) = r at *
  generalize S (List.replicate (d - m) 48) = z at *
  generalize S (Lib.decDigits n) = y at *
  clear hn hG
  go_enter Tryz.func49, Tryz.ntmps49
  go_wp2_with fail
  go_at_call 48
  refine HI.out.mono ?_
  rintro e w1 ⟨rfl, hb'⟩
  have HB := Lib.hid hb'; clear hb'
  go_wp2_with fail
  go_at_call 80
  refine (HR.out _).mono ?_
  rintro e w2 ⟨rfl, hb'⟩
  have HB2 := Lib.hid (HB.out.trans (hb'.mono HB.out.size)); clear hb'
  go_wp2_with fail
  go_ret
  rw [HP.out]
  exact ⟨rfl, HB2.out⟩

def hm (m : Nat) : Bs := if m < 60 then Lib.decDigits m else Lib.decDigits (m / 60) ++ 58 :: pad (m % 60) 2
def frT (f : Nat) : Bs := if f = 0 then [] else 46 :: trimZ (pad f 6)
/-- The text of a time that is not negative. -/
def ttA (a : Nat) : Bs := hm (a / 1000000 / 60) ++ (58 :: pad (a / 1000000 % 60) 2) ++ frT (a % 1000000)
def ttx (t : Int) : Bs := (if t < 0 then [45] else []) ++ ttA t.natAbs

set_option maxHeartbeats 2000000 in
set_option maxRecDepth 100000 in
theorem timeText_any (t : Int) (w : World) (hG : Gl w) :
    Calls Tryz.prog 24 #[.int .i64 t] w fun e w' =>
      e = .returned (.tuple (if t < -1099511627776 ∨ 1099511627776 < t then #[.string ⟨#[]⟩, .int .i64 1] else #[.string (S (ttx t)), .int .i64 0])) ∧ Below w.heap.size w w' := by
  have HG := Lib.hid hG
  clear hG
  by_cases hb1 : t < -1099511627776
  · rw [if_pos (Or.inl hb1)]
    go_enter Tryz.func24, Tryz.ntmps24
    go_wp2_with fail
    go_ret2
    exact ⟨rfl, Below.refl _ _⟩
  by_cases hb2 : 1099511627776 < t
  · rw [if_pos (Or.inr hb2)]
    go_enter Tryz.func24, Tryz.ntmps24
    go_wp2_with fail
    go_ret2
    exact ⟨rfl, Below.refl _ _⟩
  rw [if_neg (by omega)]
  by_cases h0 : t < 0
  · obtain ⟨a, rfl⟩ : ∃ a : Nat, t = -(a : Int) := ⟨t.natAbs, by omega⟩
    have ha : a ≤ 1099511627776 := by omega
    have ha0 : 0 < a := by omega
    have hat : ttx (-(a : Int)) = [45] ++ ttA a := by unfold ttx; rw [if_pos h0, Int.natAbs_neg, Int.natAbs_natCast]
    have hq : ((a / 1000000 / 60 : Nat) : Int) = (a : Int) / 1000000 / 60 := by omega
    have hs : ((a / 1000000 % 60 : Nat) : Int) = (a : Int) / 1000000 % 60 := by omega
    have hf' : ((a % 1000000 : Nat) : Int) = (a : Int) % 1000000 := by omega
    have HP2 : Hid (∀ w1, Below w.heap.size w w1 → Calls Tryz.prog 49 #[.int .i64 ((a : Int) / 1000000 % 60), .int .i64 2] w1 fun e w' => e = .returned (.string (S (pad (a / 1000000 % 60) 2))) ∧ Below w1.heap.size w1 w') := Lib.hid fun w1 hb => by
      rw [← hs]; exact padded_any _ 2 (by omega) (by omega) w1 (HG.out.bel' hb)
    have HP3 : Hid (∀ w1, Below w.heap.size w w1 → Calls Tryz.prog 49 #[.int .i64 ((a : Int) % 1000000), .int .i64 6] w1 fun e w' => e = .returned (.string (S (pad (a % 1000000) 6))) ∧ Below w1.heap.size w1 w') := Lib.hid fun w1 hb => by
      rw [← hf']; exact padded_any _ 6 (by omega) (by omega) w1 (HG.out.bel' hb)
    have hl6 := dec_len 5 (a % 1000000) (by omega)
    have hlp : (pad (a % 1000000) 6).length ≤ 10 := by unfold pad; rw [List.length_append, List.length_replicate]; omega
    have hl2 := dec_len 1 (a / 1000000 % 60) (by omega)
    have hlp2 : (pad (a / 1000000 % 60) 2).length ≤ 10 := by unfold pad; rw [List.length_append, List.length_replicate]; omega
    have hlt4 := trimZ_len (pad (a % 1000000) 6)
    have hs4 := S_size (trimZ (pad (a % 1000000) 6))
    have HT : Hid (∀ w1, Calls Tryz.prog 50 #[.string (S (pad (a % 1000000) 6)), .string ⟨#[48]⟩] w1 fun e w' => e = .returned (.string (S (trimZ (pad (a % 1000000) 6)))) ∧ Below w1.heap.size w1 w') := Lib.hid fun w1 => trimRight_any _ (by omega) w1
    by_cases hm60 : a / 1000000 / 60 < 60
    · have hm1 : (a : Int) / 1000000 / 60 < 60 := by omega
      have HE : Hid (ttx (-(a : Int)) = [45] ++ (Lib.decDigits (a / 1000000 / 60) ++ (58 :: pad (a / 1000000 % 60) 2) ++ frT (a % 1000000))) := Lib.hid (by rw [hat]; unfold ttA hm; rw [if_pos hm60])
      have HI : Hid (Calls Tryz.prog 48 #[.int .i64 ((a : Int) / 1000000 / 60)] w fun e w' => e = .returned (.string (S (Lib.decDigits (a / 1000000 / 60)))) ∧ Below w.heap.size w w') := Lib.hid (by rw [← hq]; exact itoa_any _ (by omega) w HG.out)
      have hl1 := dec_len 17 (a / 1000000 / 60) (by omega)
      have hs1 := S_size (Lib.decDigits (a / 1000000 / 60))
      have hs2 := S_size (pad (a / 1000000 % 60) 2)
      obtain ⟨f, hfe⟩ : ∃ f, f = a % 1000000 := ⟨_, rfl⟩
      clear hat
      go_enter Tryz.func24, Tryz.ntmps24
      go_wp2_with fail
      go_at_call 48
      refine HI.out.mono ?_
      rintro e w1 ⟨rfl, hb'⟩
      have HB1 := Lib.hid hb'; clear hb'
      go_wp2_with fail
      go_at_call 49
      refine (HP2.out _ HB1.out).mono ?_
      rintro e w2 ⟨rfl, hb'⟩
      have HB2 := Lib.hid (HB1.out.trans (hb'.mono HB1.out.size)); clear hb'
      by_cases hf : 0 < f
      · have hfi : (0 : Int) < (a : Int) % 1000000 := by omega
        go_wp2_with fail
        go_at_call 49
        refine (HP3.out _ HB2.out).mono ?_
        rintro e w3 ⟨rfl, hb'⟩
        have HB3 := Lib.hid (HB2.out.trans (hb'.mono HB2.out.size)); clear hb'
        go_wp2_with fail
        go_at_call 50
        refine (HT.out _).mono ?_
        rintro e w4 ⟨rfl, hb'⟩
        have HB4 := Lib.hid (HB3.out.trans (hb'.mono HB3.out.size)); clear hb'
        go_wp2_with fail
        go_ret2
        rw [HE.out, ← hfe, frT, if_neg (by omega)]
        refine ⟨?_, HB4.out⟩
        refine congrArg (fun s => Ending.returned (.tuple #[.string s, .int .i64 0])) ?_
        simp only [lit45, lit46, lit58, S_append]
        all_goals exact congrArg S (by simp)
      · have hfi : ¬ (0 : Int) < (a : Int) % 1000000 := by omega
        go_wp2_with fail
        go_ret2
        rw [HE.out, ← hfe, frT, if_pos (by omega)]
        refine ⟨?_, HB2.out⟩
        refine congrArg (fun s => Ending.returned (.tuple #[.string s, .int .i64 0])) ?_
        simp only [lit45, lit58, S_append]
        all_goals exact congrArg S (by simp)
    · have hm1 : ¬ (a : Int) / 1000000 / 60 < 60 := by omega
      have HE : Hid (ttx (-(a : Int)) = [45] ++ ((Lib.decDigits (a / 1000000 / 60 / 60) ++ 58 :: pad (a / 1000000 / 60 % 60) 2) ++ (58 :: pad (a / 1000000 % 60) 2) ++ frT (a % 1000000))) := Lib.hid (by rw [hat]; unfold ttA hm; rw [if_neg hm60])
      have HI : Hid (Calls Tryz.prog 48 #[.int .i64 ((a : Int) / 1000000 / 60 / 60)] w fun e w' => e = .returned (.string (S (Lib.decDigits (a / 1000000 / 60 / 60)))) ∧ Below w.heap.size w w') := Lib.hid (by rw [show (a : Int) / 1000000 / 60 / 60 = ((a / 1000000 / 60 / 60 : Nat) : Int) by omega]; exact itoa_any _ (by omega) w HG.out)
      have HP1 : Hid (∀ w1, Below w.heap.size w w1 → Calls Tryz.prog 49 #[.int .i64 ((a : Int) / 1000000 / 60 % 60), .int .i64 2] w1 fun e w' => e = .returned (.string (S (pad (a / 1000000 / 60 % 60) 2))) ∧ Below w1.heap.size w1 w') := Lib.hid fun w1 hb => by rw [show (a : Int) / 1000000 / 60 % 60 = ((a / 1000000 / 60 % 60 : Nat) : Int) by omega]; exact padded_any _ 2 (by omega) (by omega) w1 (HG.out.bel' hb)
      have hl1 := dec_len 17 (a / 1000000 / 60 / 60) (by omega)
      have hs1 := S_size (Lib.decDigits (a / 1000000 / 60 / 60))
      have hl3 := dec_len 1 (a / 1000000 / 60 % 60) (by omega)
      have hs3 := S_size (pad (a / 1000000 / 60 % 60) 2)
      have hlp3 : (pad (a / 1000000 / 60 % 60) 2).length ≤ 10 := by unfold pad; rw [List.length_append, List.length_replicate]; omega
      have hs2 := S_size (pad (a / 1000000 % 60) 2)
      obtain ⟨f, hfe⟩ : ∃ f, f = a % 1000000 := ⟨_, rfl⟩
      clear hat
      go_enter Tryz.func24, Tryz.ntmps24
      go_wp2_with fail
      go_at_call 48
      refine HI.out.mono ?_
      rintro e w1 ⟨rfl, hb'⟩
      have HB1 := Lib.hid hb'; clear hb'
      go_wp2_with fail
      go_at_call 49
      refine (HP1.out _ HB1.out).mono ?_
      rintro e w1b ⟨rfl, hb'⟩
      have HB1 := Lib.hid (HB1.out.trans (hb'.mono HB1.out.size)); clear hb'
      go_wp2_with fail
      go_at_call 49
      refine (HP2.out _ HB1.out).mono ?_
      rintro e w2 ⟨rfl, hb'⟩
      have HB2 := Lib.hid (HB1.out.trans (hb'.mono HB1.out.size)); clear hb'
      by_cases hf : 0 < f
      · have hfi : (0 : Int) < (a : Int) % 1000000 := by omega
        go_wp2_with fail
        go_at_call 49
        refine (HP3.out _ HB2.out).mono ?_
        rintro e w3 ⟨rfl, hb'⟩
        have HB3 := Lib.hid (HB2.out.trans (hb'.mono HB2.out.size)); clear hb'
        go_wp2_with fail
        go_at_call 50
        refine (HT.out _).mono ?_
        rintro e w4 ⟨rfl, hb'⟩
        have HB4 := Lib.hid (HB3.out.trans (hb'.mono HB3.out.size)); clear hb'
        go_wp2_with fail
        go_ret2
        rw [HE.out, ← hfe, frT, if_neg (by omega)]
        refine ⟨?_, HB4.out⟩
        refine congrArg (fun s => Ending.returned (.tuple #[.string s, .int .i64 0])) ?_
        simp only [lit45, lit46, lit58, S_append]
        all_goals exact congrArg S (by simp)
      · have hfi : ¬ (0 : Int) < (a : Int) % 1000000 := by omega
        go_wp2_with fail
        go_ret2
        rw [HE.out, ← hfe, frT, if_pos (by omega)]
        refine ⟨?_, HB2.out⟩
        refine congrArg (fun s => Ending.returned (.tuple #[.string s, .int .i64 0])) ?_
        simp only [lit45, lit58, S_append]
        all_goals exact congrArg S (by simp)
  · obtain ⟨a, rfl⟩ : ∃ a : Nat, t = a := ⟨t.toNat, by omega⟩
    have ha : a ≤ 1099511627776 := by omega
    have hat : ttx (a : Int) = ttA a := by unfold ttx; rw [if_neg h0, Int.natAbs_natCast]; rfl
    have hq : ((a / 1000000 / 60 : Nat) : Int) = (a : Int) / 1000000 / 60 := by omega
    have hs : ((a / 1000000 % 60 : Nat) : Int) = (a : Int) / 1000000 % 60 := by omega
    have hf' : ((a % 1000000 : Nat) : Int) = (a : Int) % 1000000 := by omega
    have HP2 : Hid (∀ w1, Below w.heap.size w w1 → Calls Tryz.prog 49 #[.int .i64 ((a : Int) / 1000000 % 60), .int .i64 2] w1 fun e w' => e = .returned (.string (S (pad (a / 1000000 % 60) 2))) ∧ Below w1.heap.size w1 w') := Lib.hid fun w1 hb => by
      rw [← hs]; exact padded_any _ 2 (by omega) (by omega) w1 (HG.out.bel' hb)
    have HP3 : Hid (∀ w1, Below w.heap.size w w1 → Calls Tryz.prog 49 #[.int .i64 ((a : Int) % 1000000), .int .i64 6] w1 fun e w' => e = .returned (.string (S (pad (a % 1000000) 6))) ∧ Below w1.heap.size w1 w') := Lib.hid fun w1 hb => by
      rw [← hf']; exact padded_any _ 6 (by omega) (by omega) w1 (HG.out.bel' hb)
    have hl6 := dec_len 5 (a % 1000000) (by omega)
    have hlp : (pad (a % 1000000) 6).length ≤ 10 := by unfold pad; rw [List.length_append, List.length_replicate]; omega
    have hl2 := dec_len 1 (a / 1000000 % 60) (by omega)
    have hlp2 : (pad (a / 1000000 % 60) 2).length ≤ 10 := by unfold pad; rw [List.length_append, List.length_replicate]; omega
    have hlt4 := trimZ_len (pad (a % 1000000) 6)
    have hs4 := S_size (trimZ (pad (a % 1000000) 6))
    have HT : Hid (∀ w1, Calls Tryz.prog 50 #[.string (S (pad (a % 1000000) 6)), .string ⟨#[48]⟩] w1 fun e w' => e = .returned (.string (S (trimZ (pad (a % 1000000) 6)))) ∧ Below w1.heap.size w1 w') := Lib.hid fun w1 => trimRight_any _ (by omega) w1
    by_cases hm60 : a / 1000000 / 60 < 60
    · have hm1 : (a : Int) / 1000000 / 60 < 60 := by omega
      have HE : Hid (ttx (a : Int) = (Lib.decDigits (a / 1000000 / 60) ++ (58 :: pad (a / 1000000 % 60) 2) ++ frT (a % 1000000))) := Lib.hid (by rw [hat]; unfold ttA hm; rw [if_pos hm60])
      have HI : Hid (Calls Tryz.prog 48 #[.int .i64 ((a : Int) / 1000000 / 60)] w fun e w' => e = .returned (.string (S (Lib.decDigits (a / 1000000 / 60)))) ∧ Below w.heap.size w w') := Lib.hid (by rw [← hq]; exact itoa_any _ (by omega) w HG.out)
      have hl1 := dec_len 17 (a / 1000000 / 60) (by omega)
      have hs1 := S_size (Lib.decDigits (a / 1000000 / 60))
      have hs2 := S_size (pad (a / 1000000 % 60) 2)
      obtain ⟨f, hfe⟩ : ∃ f, f = a % 1000000 := ⟨_, rfl⟩
      clear hat
      go_enter Tryz.func24, Tryz.ntmps24
      go_wp2_with fail
      go_at_call 48
      refine HI.out.mono ?_
      rintro e w1 ⟨rfl, hb'⟩
      have HB1 := Lib.hid hb'; clear hb'
      go_wp2_with fail
      go_at_call 49
      refine (HP2.out _ HB1.out).mono ?_
      rintro e w2 ⟨rfl, hb'⟩
      have HB2 := Lib.hid (HB1.out.trans (hb'.mono HB1.out.size)); clear hb'
      by_cases hf : 0 < f
      · have hfi : (0 : Int) < (a : Int) % 1000000 := by omega
        go_wp2_with fail
        go_at_call 49
        refine (HP3.out _ HB2.out).mono ?_
        rintro e w3 ⟨rfl, hb'⟩
        have HB3 := Lib.hid (HB2.out.trans (hb'.mono HB2.out.size)); clear hb'
        go_wp2_with fail
        go_at_call 50
        refine (HT.out _).mono ?_
        rintro e w4 ⟨rfl, hb'⟩
        have HB4 := Lib.hid (HB3.out.trans (hb'.mono HB3.out.size)); clear hb'
        go_wp2_with fail
        go_ret2
        rw [HE.out, ← hfe, frT, if_neg (by omega)]
        refine ⟨?_, HB4.out⟩
        refine congrArg (fun s => Ending.returned (.tuple #[.string s, .int .i64 0])) ?_
        simp only [lit0, lit46, lit58, S_append]
        all_goals exact congrArg S (by simp)
      · have hfi : ¬ (0 : Int) < (a : Int) % 1000000 := by omega
        go_wp2_with fail
        go_ret2
        rw [HE.out, ← hfe, frT, if_pos (by omega)]
        refine ⟨?_, HB2.out⟩
        refine congrArg (fun s => Ending.returned (.tuple #[.string s, .int .i64 0])) ?_
        simp only [lit0, lit58, S_append]
        all_goals exact congrArg S (by simp)
    · have hm1 : ¬ (a : Int) / 1000000 / 60 < 60 := by omega
      have HE : Hid (ttx (a : Int) = ((Lib.decDigits (a / 1000000 / 60 / 60) ++ 58 :: pad (a / 1000000 / 60 % 60) 2) ++ (58 :: pad (a / 1000000 % 60) 2) ++ frT (a % 1000000))) := Lib.hid (by rw [hat]; unfold ttA hm; rw [if_neg hm60])
      have HI : Hid (Calls Tryz.prog 48 #[.int .i64 ((a : Int) / 1000000 / 60 / 60)] w fun e w' => e = .returned (.string (S (Lib.decDigits (a / 1000000 / 60 / 60)))) ∧ Below w.heap.size w w') := Lib.hid (by rw [show (a : Int) / 1000000 / 60 / 60 = ((a / 1000000 / 60 / 60 : Nat) : Int) by omega]; exact itoa_any _ (by omega) w HG.out)
      have HP1 : Hid (∀ w1, Below w.heap.size w w1 → Calls Tryz.prog 49 #[.int .i64 ((a : Int) / 1000000 / 60 % 60), .int .i64 2] w1 fun e w' => e = .returned (.string (S (pad (a / 1000000 / 60 % 60) 2))) ∧ Below w1.heap.size w1 w') := Lib.hid fun w1 hb => by rw [show (a : Int) / 1000000 / 60 % 60 = ((a / 1000000 / 60 % 60 : Nat) : Int) by omega]; exact padded_any _ 2 (by omega) (by omega) w1 (HG.out.bel' hb)
      have hl1 := dec_len 17 (a / 1000000 / 60 / 60) (by omega)
      have hs1 := S_size (Lib.decDigits (a / 1000000 / 60 / 60))
      have hl3 := dec_len 1 (a / 1000000 / 60 % 60) (by omega)
      have hs3 := S_size (pad (a / 1000000 / 60 % 60) 2)
      have hlp3 : (pad (a / 1000000 / 60 % 60) 2).length ≤ 10 := by unfold pad; rw [List.length_append, List.length_replicate]; omega
      have hs2 := S_size (pad (a / 1000000 % 60) 2)
      obtain ⟨f, hfe⟩ : ∃ f, f = a % 1000000 := ⟨_, rfl⟩
      clear hat
      go_enter Tryz.func24, Tryz.ntmps24
      go_wp2_with fail
      go_at_call 48
      refine HI.out.mono ?_
      rintro e w1 ⟨rfl, hb'⟩
      have HB1 := Lib.hid hb'; clear hb'
      go_wp2_with fail
      go_at_call 49
      refine (HP1.out _ HB1.out).mono ?_
      rintro e w1b ⟨rfl, hb'⟩
      have HB1 := Lib.hid (HB1.out.trans (hb'.mono HB1.out.size)); clear hb'
      go_wp2_with fail
      go_at_call 49
      refine (HP2.out _ HB1.out).mono ?_
      rintro e w2 ⟨rfl, hb'⟩
      have HB2 := Lib.hid (HB1.out.trans (hb'.mono HB1.out.size)); clear hb'
      by_cases hf : 0 < f
      · have hfi : (0 : Int) < (a : Int) % 1000000 := by omega
        go_wp2_with fail
        go_at_call 49
        refine (HP3.out _ HB2.out).mono ?_
        rintro e w3 ⟨rfl, hb'⟩
        have HB3 := Lib.hid (HB2.out.trans (hb'.mono HB2.out.size)); clear hb'
        go_wp2_with fail
        go_at_call 50
        refine (HT.out _).mono ?_
        rintro e w4 ⟨rfl, hb'⟩
        have HB4 := Lib.hid (HB3.out.trans (hb'.mono HB3.out.size)); clear hb'
        go_wp2_with fail
        go_ret2
        rw [HE.out, ← hfe, frT, if_neg (by omega)]
        refine ⟨?_, HB4.out⟩
        refine congrArg (fun s => Ending.returned (.tuple #[.string s, .int .i64 0])) ?_
        simp only [lit0, lit46, lit58, S_append]
        all_goals exact congrArg S (by simp)
      · have hfi : ¬ (0 : Int) < (a : Int) % 1000000 := by omega
        go_wp2_with fail
        go_ret2
        rw [HE.out, ← hfe, frT, if_pos (by omega)]
        refine ⟨?_, HB2.out⟩
        refine congrArg (fun s => Ending.returned (.tuple #[.string s, .int .i64 0])) ?_
        simp only [lit0, lit58, S_append]
        all_goals exact congrArg S (by simp)
end Go.Proofs.YtlcmedimgoaneaaGreatDoor
