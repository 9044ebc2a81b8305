/- The specification's TimeText. -/
import Derived.Test.YtlcmedimgoaneaaGreatDoorKTxt
import Derived.Test.YtlcmedimgoaneaaGreatDoorKRef4
namespace Go.Proofs.YtlcmedimgoaneaaGreatDoor
open Go.RowKit

theorem dig_piece : ∀ r : Fin 10, (ByteArray.mk #[48, 49, 50, 51, 52, 53, 54, 55, 56, 57]).extract r.val (r.val + 1) = S [UInt8.ofNat (48 + r.val)] := by decide
set_option maxRecDepth 100000 in
theorem decimal_any : ∀ (k n : Nat), n < 10 ^ (k + 1) → n < 10 ^ 18 → ∀ w : World, Calls Tryz.prog 51 #[.int .i64 n] w fun e w' => e = .returned (.string (S (Lib.decDigits n))) ∧ w' = w := by
  intro k
  induction k with
  | zero =>
    intro n hn hb w
    have hn : n < 10 := by simpa using hn
    have HE : Hid (S (Lib.decDigits n) = (ByteArray.mk #[48, 49, 50, 51, 52, 53, 54, 55, 56, 57]).extract n (n + 1)) := Lib.hid (by rw [Lib.decDigits, dif_pos hn]; exact (dig_piece ⟨n, hn⟩).symm)
    have hr : (n : Int) % 10 = (n : Int) := by omega
    go_enter Tryz.func51, Tryz.ntmps51
    go_wp2_with fail
    go_ret
    rw [HE.out]
    exact ⟨rfl, rfl⟩
  | succ k ih =>
    intro n hn hb w
    by_cases h1 : n < 10
    · exact ih n (Nat.lt_of_lt_of_le h1 (by rw [Nat.pow_succ]; have : 0 < 10 ^ k := Nat.pow_pos (by decide); omega)) hb w
    have HI := Lib.hid (ih (n / 10) (by rw [Nat.pow_succ] at hn; omega) (by omega) w)
    clear ih
    rw [show ((n / 10 : Nat) : Int) = (n : Int) / 10 by omega] at HI
    have hr : (n : Int) % 10 = ((n % 10 : Nat) : Int) := by omega
    have hlt : n % 10 < 10 := by omega
    have hm : ¬ (n : Int) < 10 := by omega
    have hl := dec_len 17 (n / 10) (by omega)
    have hsz := S_size (Lib.decDigits (n / 10))
    have HE : Hid (S (Lib.decDigits n) = S (Lib.decDigits (n / 10)) ++ (ByteArray.mk #[48, 49, 50, 51, 52, 53, 54, 55, 56, 57]).extract (n % 10) (n % 10 + 1)) := Lib.hid (by
      have h : Lib.decDigits n = Lib.decDigits (n / 10) ++ [UInt8.ofNat (48 + n % 10)] := by rw [Lib.decDigits, dif_neg h1]
      rw [h, ← S_append]
      congr 1
      exact (dig_piece ⟨n % 10, hlt⟩).symm)
    have hz : ((ByteArray.mk #[48, 49, 50, 51, 52, 53, 54, 55, 56, 57]).extract (n % 10) (n % 10 + 1)).size = 1 := by rw [dig_piece ⟨n % 10, hlt⟩]; rfl
    generalize n % 10 = r at *
    clear hn
    go_enter Tryz.func51, Tryz.ntmps51
    go_wp2_with fail
    go_at_call 51
    refine HI.out.mono ?_
    rintro e w1 ⟨rfl, rfl⟩
    go_wp2_with fail
    go_ret
    rw [HE.out]
    exact ⟨rfl, rfl⟩
theorem dec_any (n : Nat) (hn : n < 10 ^ 18) (w : World) : Calls Tryz.prog 51 #[.int .i64 n] w fun e w' => e = .returned (.string (S (Lib.decDigits n))) ∧ w' = w := decimal_any 17 n hn hn w
theorem two_pad (n : Nat) (hn : n < 100) : Lib.decDigits (n / 10) ++ Lib.decDigits (n % 10) = pad n 2 := by
  unfold pad
  by_cases h : n < 10
  · rw [show n / 10 = 0 by omega, show n % 10 = n by omega, Lib.decDigits_one h, Lib.decDigits_one (by omega : 0 < 10)]; rfl
  · rw [Lib.decDigits_one (by omega : n / 10 < 10), Lib.decDigits_one (by omega : n % 10 < 10), Lib.decDigits_two h hn]; rfl
set_option maxRecDepth 100000 in
theorem two_any (n : Nat) (hn : n < 100) (w : World) : Calls Tryz.prog 52 #[.int .i64 n] w fun e w' => e = .returned (.string (S (pad n 2))) ∧ w' = w := by
  rw [← two_pad n hn, ← S_append]
  have H1 := Lib.hid (dec_any (n / 10) (by omega))
  have H2 := Lib.hid (dec_any (n % 10) (by omega))
  have l1 := dec_len 0 (n / 10) (by omega)
  have l2 := dec_len 0 (n % 10) (by omega)
  have s1 := S_size (Lib.decDigits (n / 10))
  have s2 := S_size (Lib.decDigits (n % 10))
  rw [show ((n / 10 : Nat) : Int) = (n : Int) / 10 by omega] at H1
  rw [show ((n % 10 : Nat) : Int) = (n : Int) % 10 by omega] at H2
  go_enter Tryz.func52, Tryz.ntmps52
  go_wp2_with fail
  go_at_call 51
  refine (H1.out _).mono ?_
  rintro e w1 ⟨rfl, rfl⟩
  go_wp2_with fail
  go_at_call 51
  refine (H2.out _).mono ?_
  rintro e w1 ⟨rfl, rfl⟩
  go_wp2_with fail
  go_ret
  exact ⟨rfl, rfl⟩

theorem pad_len (n : Nat) : ∀ k, n < 10 ^ (k + 1) → (pad n (k + 1)).length = k + 1 := fun k h => by
  have := dec_len k n h
  unfold pad
  rw [List.length_append, List.length_replicate]
  omega
theorem pad_succ (f k : Nat) : pad f (k + 2) = pad (f / 10) (k + 1) ++ [UInt8.ofNat (48 + f % 10)] := by
  unfold pad
  by_cases h : f < 10
  · rw [show f / 10 = 0 by omega, show f % 10 = f by omega, Lib.decDigits_one h, Lib.decDigits_one (by omega : 0 < 10)]
    simp only [List.length_singleton, Nat.add_sub_cancel]
    rw [show k + 2 - 1 = k + 1 by omega, List.replicate_succ']
    rfl
  · have e : Lib.decDigits f = Lib.decDigits (f / 10) ++ [UInt8.ofNat (48 + f % 10)] := by rw [Lib.decDigits, dif_neg h]
    rw [e, List.length_append, List.length_singleton, ← List.append_assoc]
    rw [show k + 2 - ((Lib.decDigits (f / 10)).length + 1) = k + 1 - (Lib.decDigits (f / 10)).length by omega]
theorem dec_one_pad : ∀ (k f : Nat), f < 10 ^ (k + 1) → Lib.decDigits (10 ^ (k + 1) + f) = 49 :: pad f (k + 1)
  | 0, f, h => by
    have h : f < 10 := by simpa using h
    rw [Lib.decDigits_two (by omega) (by omega : 10 ^ (0 + 1) + f < 100)]
    unfold pad
    rw [Lib.decDigits_one h]
    have : (10 ^ (0 + 1) + f) / 10 = 1 := by omega
    have h2 : (10 ^ (0 + 1) + f) % 10 = f := by omega
    rw [this, h2]
    rfl
  | k + 1, f, h => by
    have hp : 10 ^ (k + 1 + 1) = 10 ^ (k + 1) * 10 := Nat.pow_succ ..
    have hpos : 0 < 10 ^ (k + 1) := Nat.pow_pos (by decide)
    have e : Lib.decDigits (10 ^ (k + 1 + 1) + f) = Lib.decDigits ((10 ^ (k + 1 + 1) + f) / 10) ++ [UInt8.ofNat (48 + (10 ^ (k + 1 + 1) + f) % 10)] := by rw [Lib.decDigits, dif_neg (by omega)]
    rw [e, show (10 ^ (k + 1 + 1) + f) / 10 = 10 ^ (k + 1) + f / 10 by omega, show (10 ^ (k + 1 + 1) + f) % 10 = f % 10 by omega, dec_one_pad k (f / 10) (by omega), pad_succ]
    rfl
theorem trimZ_snoc (d : Bs) (c : UInt8) : trimZ (d ++ [c]) = if c = 48 then trimZ d else d ++ [c] := by
  unfold trimZ
  rw [List.reverse_append, List.reverse_singleton, List.singleton_append, List.dropWhile_cons]
  by_cases h : c = 48
  · simp [h]
  · simp [h]

def vsz : Value → Nat | .string s => s.size | _ => 0
theorem val_pad : ∀ (k f : Nat), f < 10 ^ (k + 1) → val (pad f (k + 1)) = f
  | 0, f, h => by
    have h : f < 10 := by simpa using h
    unfold pad
    rw [Lib.decDigits_one h]
    have e : (UInt8.ofNat (48 + f)).toNat = 48 + f := by simp; omega
    show val ([] ++ [UInt8.ofNat (48 + f)]) = f
    rw [val_snoc, e]
    show 10 * 0 + _ = _
    omega
  | k + 1, f, h => by
    have e : (UInt8.ofNat (48 + f % 10)).toNat = 48 + f % 10 := by simp; omega
    rw [pad_succ, val_snoc, val_pad k (f / 10) (by rw [Nat.pow_succ] at h; omega), e]
    omega
set_option maxHeartbeats 2000000 in
set_option maxRecDepth 100000 in
theorem refTT_nn (a : Nat) (ha : a ≤ 1099511627776) (w : World) : Calls Tryz.prog 25 #[.int .i64 a] w fun e w' => e = .returned (.tuple #[.string (S (ttA a)), .int .i64 0]) ∧ Below w.heap.size w w' := by
  have H1 : Hid (∀ w1, Calls Tryz.prog 51 #[.int .i64 ((a : Int) / 1000000 / 60)] w1 fun e w' => e = .returned (.string (S (Lib.decDigits (a / 1000000 / 60)))) ∧ w' = w1) := Lib.hid fun w1 => by
    rw [show (a : Int) / 1000000 / 60 = ((a / 1000000 / 60 : Nat) : Int) by omega]; exact dec_any _ (by omega) w1
  have H2 : Hid (∀ w1, Calls Tryz.prog 52 #[.int .i64 ((a : Int) / 1000000 % 60)] w1 fun e w' => e = .returned (.string (S (pad (a / 1000000 % 60) 2))) ∧ w' = w1) := Lib.hid fun w1 => by
    rw [show (a : Int) / 1000000 % 60 = ((a / 1000000 % 60 : Nat) : Int) by omega]; exact two_any _ (by omega) w1
  have l1 := dec_len 17 (a / 1000000 / 60) (by omega)
  have s1 := S_size (Lib.decDigits (a / 1000000 / 60))
  have l2 : (pad (a / 1000000 % 60) 2).length = 2 := pad_len _ 1 (by omega)
  have s2 := S_size (pad (a / 1000000 % 60) 2)
  have H3 : Hid (∀ w1, Calls Tryz.prog 51 #[.int .i64 ((a : Int) / 1000000 / 3600)] w1 fun e w' => e = .returned (.string (S (Lib.decDigits (a / 1000000 / 3600)))) ∧ w' = w1) := Lib.hid fun w1 => by
    rw [show (a : Int) / 1000000 / 3600 = ((a / 1000000 / 3600 : Nat) : Int) by omega]; exact dec_any _ (by omega) w1
  have H4 : Hid (∀ w1, Calls Tryz.prog 52 #[.int .i64 ((a : Int) / 1000000 / 60 % 60)] w1 fun e w' => e = .returned (.string (S (pad (a / 1000000 / 60 % 60) 2))) ∧ w' = w1) := Lib.hid fun w1 => by
    rw [show (a : Int) / 1000000 / 60 % 60 = ((a / 1000000 / 60 % 60 : Nat) : Int) by omega]; exact two_any _ (by omega) w1
  have l3 := dec_len 17 (a / 1000000 / 3600) (by omega)
  have s3 := S_size (Lib.decDigits (a / 1000000 / 3600))
  have l4 : (pad (a / 1000000 / 60 % 60) 2).length = 2 := pad_len _ 1 (by omega)
  have s4 := S_size (pad (a / 1000000 / 60 % 60) 2)
  have HQ : a / 1000000 / 60 / 60 = a / 1000000 / 3600 := by omega
  obtain ⟨f, hfe⟩ : ∃ f, f = a % 1000000 := ⟨_, rfl⟩
  have hfl : f < 1000000 := by omega
  have HD := dec_one_pad 5 f (by omega)
  have H5 : Hid (∀ w1, Calls Tryz.prog 51 #[.int .i64 (1000000 + (a : Int) % 1000000)] w1 fun e w' => e = .returned (.string (S (49 :: pad f 6))) ∧ w' = w1) := Lib.hid fun w1 => by
    rw [← HD, show 1000000 + (a : Int) % 1000000 = ((10 ^ (5 + 1) + f : Nat) : Int) by omega]; exact dec_any _ (by omega) w1
  clear HD
  have l5 : (pad f 6).length = 6 := pad_len f 5 (by omega)
  have s5 := S_size (49 :: pad f 6)
  rw [List.length_cons, l5] at s5
  have HX : Hid ((S (49 :: pad f 6)).extract 1 7 = S (pad f 6)) := Lib.hid (by rw [S_extract]; congr 1; show ((49 :: pad f 6).drop 1).take (7 - 1) = pad f 6; exact List.take_of_length_le (by simp [l5]))
  have HNZ : Hid (f ≠ 0 → ∃ x ∈ pad f 6, x ≠ 48) := Lib.hid (fun h => by
    by_cases hh : ∃ x ∈ pad f 6, x ≠ 48
    · exact hh
    · exfalso
      have h2 : val (pad f 6) = 0 := by
        have : pad f 6 = [] ++ List.replicate 6 48 := List.eq_replicate_iff.2 ⟨l5, fun x hx => by
          by_cases hx2 : x = 48
          · exact hx2
          · exact absurd ⟨x, hx, hx2⟩ hh⟩
        rw [this, val_zeros]; rfl
      exact h (by rw [← val_pad 5 f (by omega)]; exact h2))
  by_cases h3 : 3600 ≤ a / 1000000
  · have h3i : (3600 : Int) ≤ (a : Int) / 1000000 := by omega
    have HE : Hid (ttA a = (Lib.decDigits (a / 1000000 / 3600) ++ 58 :: pad (a / 1000000 / 60 % 60) 2) ++ (58 :: pad (a / 1000000 % 60) 2) ++ frT f) := Lib.hid (by unfold ttA hm; rw [if_neg (by omega), HQ, hfe])
    by_cases hf0 : f = 0
    · have hfi : ((a : Int) % 1000000 == 0) = true := beq_iff_eq.2 (by omega)
      rw [hf0, frT, if_pos rfl] at HE
      clear HQ hfe
      go_enter Tryz.func25, Tryz.ntmps25
      go_wp2_with fail
      go_at_call 51
      refine (H1.out _).mono ?_
      rintro e w1 ⟨rfl, rfl⟩
      go_wp2_with fail
      go_at_call 52
      refine (H2.out _).mono ?_
      rintro e w1 ⟨rfl, rfl⟩
      go_wp2_with fail
      go_at_call 51
      refine (H3.out _).mono ?_
      rintro e w1 ⟨rfl, rfl⟩
      go_wp2_with fail
      go_at_call 52
      refine (H4.out _).mono ?_
      rintro e w1 ⟨rfl, rfl⟩
      go_wp2_with fail
      go_at_call 52
      refine (H2.out _).mono ?_
      rintro e w1 ⟨rfl, rfl⟩
      go_wp2_with fail
      go_ret2
      rw [HE.out]
      refine ⟨?_, Below.refl _ _⟩
      refine congrArg (fun s => Ending.returned (.tuple #[.string s, .int .i64 0])) ?_
      simp only [lit58, S_append]
      all_goals exact congrArg S (by simp)
    · have hfi : ((a : Int) % 1000000 == 0) = false := beq_eq_false_iff_ne.2 (by omega)
      rw [frT, if_neg hf0] at HE
      clear HQ hfe
      go_enter Tryz.func25, Tryz.ntmps25
      go_wp2_with fail
      go_at_call 51
      refine (H1.out _).mono ?_
      rintro e w1 ⟨rfl, rfl⟩
      go_wp2_with fail
      go_at_call 52
      refine (H2.out _).mono ?_
      rintro e w1 ⟨rfl, rfl⟩
      go_wp2_with fail
      go_at_call 51
      refine (H3.out _).mono ?_
      rintro e w1 ⟨rfl, rfl⟩
      go_wp2_with fail
      go_at_call 52
      refine (H4.out _).mono ?_
      rintro e w1 ⟨rfl, rfl⟩
      go_wp2_with fail
      go_at_call 52
      refine (H2.out _).mono ?_
      rintro e w1 ⟨rfl, rfl⟩
      go_wp2_with fail
      go_at_call 51
      refine (H5.out _).mono ?_
      rintro e w1 ⟨rfl, rfl⟩
      go_wp2_with fail
      go_loopw [9] (fun v wr => ∃ d : Bs, v = .string (S d) ∧ d.length ≤ 6 ∧ Hid (trimZ d = trimZ (pad f 6)) ∧ Hid (∃ x ∈ d, x ≠ 48) ∧ wr = w1) (fun v _ => vsz v)
      case atStart => exact ⟨pad f 6, by rw [HX.out], by omega, Lib.hid rfl, Lib.hid (HNZ.out hf0), rfl⟩
      case round =>
        obtain ⟨d, rfl, hd6, HTZ, HN, rfl⟩ := hrel
        obtain ⟨e, c, rfl⟩ : ∃ e c, d = e ++ [c] := by
          have hne : d ≠ [] := by
            rintro rfl
            obtain ⟨x, hx, _⟩ := HN.out
            cases hx
          exact ⟨d.dropLast, d.getLast hne, (List.dropLast_concat_getLast hne).symm⟩
        have hds := S_size (e ++ [c])
        rw [List.length_append, List.length_singleton] at hds hd6
        have HG1 : Hid (∀ h, (S (e ++ [c]))[e.length]'h = c) := Lib.hid (fun h => by rw [S_get]; simp)
        have HXe : Hid ((S (e ++ [c])).extract 0 e.length = S e) := Lib.hid (by rw [S_extract]; simp)
        rw [trimZ_snoc] at HTZ
        go_wp2_with fail
        case roundEnd =>
          rename_i hh
          rw [HG1.out] at hh
          have hc : c = 48 := UInt8.toNat_inj.1 (by have := eq_of_beq hh; show c.toNat = 48; omega)
          have hz := HTZ.out
          rw [if_pos hc] at hz
          refine ⟨⟨e, by rw [HXe.out], by omega, Lib.hid hz, Lib.hid ?_, trivial⟩, ?_⟩
          · obtain ⟨x, hx, hx2⟩ := HN.out
            rcases List.mem_append.1 hx with h | h
            · exact ⟨x, h, hx2⟩
            · exact absurd ((List.mem_singleton.1 h).trans hc) hx2
          · rw [HXe.out]; simp [vsz, S_size]
        rename_i hh
        rw [HG1.out] at hh
        have hc : ¬ c = 48 := by rintro rfl; exact absurd hh (by decide)
        have hz := HTZ.out
        rw [if_neg hc] at hz
        go_ret2
        rw [HE.out, ← hz]
        refine ⟨?_, Below.refl _ _⟩
        refine congrArg (fun s => Ending.returned (.tuple #[.string s, .int .i64 0])) ?_
        simp only [lit46, lit58, S_append]
        all_goals exact congrArg S (by simp)
  · have h3i : ¬ (3600 : Int) ≤ (a : Int) / 1000000 := by omega
    have HE : Hid (ttA a = Lib.decDigits (a / 1000000 / 60) ++ (58 :: pad (a / 1000000 % 60) 2) ++ frT f) := Lib.hid (by unfold ttA hm; rw [if_pos (by omega), hfe])
    by_cases hf0 : f = 0
    · have hfi : ((a : Int) % 1000000 == 0) = true := beq_iff_eq.2 (by omega)
      rw [hf0, frT, if_pos rfl] at HE
      clear HQ hfe
      go_enter Tryz.func25, Tryz.ntmps25
      go_wp2_with fail
      go_at_call 51
      refine (H1.out _).mono ?_
      rintro e w1 ⟨rfl, rfl⟩
      go_wp2_with fail
      go_at_call 52
      refine (H2.out _).mono ?_
      rintro e w1 ⟨rfl, rfl⟩
      go_wp2_with fail
      go_ret2
      rw [HE.out]
      refine ⟨?_, Below.refl _ _⟩
      refine congrArg (fun s => Ending.returned (.tuple #[.string s, .int .i64 0])) ?_
      simp only [lit58, S_append]
      all_goals exact congrArg S (by simp)
    · have hfi : ((a : Int) % 1000000 == 0) = false := beq_eq_false_iff_ne.2 (by omega)
      rw [frT, if_neg hf0] at HE
      clear HQ hfe
      go_enter Tryz.func25, Tryz.ntmps25
      go_wp2_with fail
      go_at_call 51
      refine (H1.out _).mono ?_
      rintro e w1 ⟨rfl, rfl⟩
      go_wp2_with fail
      go_at_call 52
      refine (H2.out _).mono ?_
      rintro e w1 ⟨rfl, rfl⟩
      go_wp2_with fail
      go_at_call 51
      refine (H5.out _).mono ?_
      rintro e w1 ⟨rfl, rfl⟩
      go_wp2_with fail
      go_loopw [9] (fun v wr => ∃ d : Bs, v = .string (S d) ∧ d.length ≤ 6 ∧ Hid (trimZ d = trimZ (pad f 6)) ∧ Hid (∃ x ∈ d, x ≠ 48) ∧ wr = w1) (fun v _ => vsz v)
      case atStart => exact ⟨pad f 6, by rw [HX.out], by omega, Lib.hid rfl, Lib.hid (HNZ.out hf0), rfl⟩
      case round =>
        obtain ⟨d, rfl, hd6, HTZ, HN, rfl⟩ := hrel
        obtain ⟨e, c, rfl⟩ : ∃ e c, d = e ++ [c] := by
          have hne : d ≠ [] := by
            rintro rfl
            obtain ⟨x, hx, _⟩ := HN.out
            cases hx
          exact ⟨d.dropLast, d.getLast hne, (List.dropLast_concat_getLast hne).symm⟩
        have hds := S_size (e ++ [c])
        rw [List.length_append, List.length_singleton] at hds hd6
        have HG1 : Hid (∀ h, (S (e ++ [c]))[e.length]'h = c) := Lib.hid (fun h => by rw [S_get]; simp)
        have HXe : Hid ((S (e ++ [c])).extract 0 e.length = S e) := Lib.hid (by rw [S_extract]; simp)
        rw [trimZ_snoc] at HTZ
        go_wp2_with fail
        case roundEnd =>
          rename_i hh
          rw [HG1.out] at hh
          have hc : c = 48 := UInt8.toNat_inj.1 (by have := eq_of_beq hh; show c.toNat = 48; omega)
          have hz := HTZ.out
          rw [if_pos hc] at hz
          refine ⟨⟨e, by rw [HXe.out], by omega, Lib.hid hz, Lib.hid ?_, trivial⟩, ?_⟩
          · obtain ⟨x, hx, hx2⟩ := HN.out
            rcases List.mem_append.1 hx with h | h
            · exact ⟨x, h, hx2⟩
            · exact absurd ((List.mem_singleton.1 h).trans hc) hx2
          · rw [HXe.out]; simp [vsz, S_size]
        rename_i hh
        rw [HG1.out] at hh
        have hc : ¬ c = 48 := by rintro rfl; exact absurd hh (by decide)
        have hz := HTZ.out
        rw [if_neg hc] at hz
        go_ret2
        rw [HE.out, ← hz]
        refine ⟨?_, Below.refl _ _⟩
        refine congrArg (fun s => Ending.returned (.tuple #[.string s, .int .i64 0])) ?_
        simp only [lit46, lit58, S_append]
        all_goals exact congrArg S (by simp)

set_option maxRecDepth 100000 in
theorem refTimeText_any (t : Int) (w : World) :
    Calls Tryz.prog 25 #[.int .i64 t] w fun e w' =>
      e = .returned (.tuple (if t < -1099511627776 ∨ 1099511627776 < t then #[.string ⟨#[]⟩, .int .i64 1] else #[.string (S (ttx t)), .int .i64 0])) ∧ Below w.heap.size w w' := by
  by_cases hb1 : t < -1099511627776
  · rw [if_pos (Or.inl hb1)]
    go_enter Tryz.func25, Tryz.ntmps25
    go_wp2_with fail
    go_ret2
    exact ⟨rfl, Below.refl _ _⟩
  by_cases hb2 : 1099511627776 < t
  · rw [if_pos (Or.inr hb2)]
    go_enter Tryz.func25, Tryz.ntmps25
    go_wp2_with fail
    go_ret2
    exact ⟨rfl, Below.refl _ _⟩
  rw [if_neg (by omega)]
  by_cases h0 : t < 0
  · obtain ⟨a, rfl⟩ : ∃ a : Nat, t = -(a : Int) := ⟨t.natAbs, by omega⟩
    have hat : ttx (-(a : Int)) = [45] ++ ttA a := by unfold ttx; rw [if_pos h0, Int.natAbs_neg, Int.natAbs_natCast]
    have HN := Lib.hid (refTT_nn a (by omega) w)
    have HE := Lib.hid hat
    have hsz := S_size (ttA a)
    have hl : (ttA a).length ≤ 100 := by
      have l1 := dec_len 17 (a / 1000000 / 60) (by omega)
      have l2 : (pad (a / 1000000 % 60) 2).length = 2 := pad_len _ 1 (by omega)
      have l3 := dec_len 17 (a / 1000000 / 60 / 60) (by omega)
      have l4 : (pad (a / 1000000 / 60 % 60) 2).length = 2 := pad_len _ 1 (by omega)
      have l5 : (pad (a % 1000000) 6).length = 6 := pad_len _ 5 (by omega)
      have l6 := trimZ_len (pad (a % 1000000) 6)
      unfold ttA hm frT
      split <;> split <;> simp only [List.length_append, List.length_cons, List.length_nil] <;> omega
    clear hat
    go_enter Tryz.func25, Tryz.ntmps25
    go_wp2_with fail
    go_at_call 25
    refine HN.out.mono ?_
    rintro e w1 ⟨rfl, hb'⟩
    have HB := Lib.hid hb'; clear hb'
    go_wp2_with fail
    go_ret2
    rw [HE.out]
    refine ⟨?_, HB.out⟩
    refine congrArg (fun s => Ending.returned (.tuple #[.string s, .int .i64 0])) ?_
    simp only [lit45, S_append]
  · obtain ⟨a, rfl⟩ : ∃ a : Nat, t = a := ⟨t.toNat, by omega⟩
    have hat : ttx (a : Int) = ttA a := by unfold ttx; rw [if_neg h0, Int.natAbs_natCast]; rfl
    rw [hat]
    exact refTT_nn a (by omega) w
end Go.Proofs.YtlcmedimgoaneaaGreatDoor
