/- The program's reader of what stands within a quoted text. -/
import Derived.Test.YtdhdjfkknfbmhaaGreatDoorKScan
namespace Go.Proofs.YtdhdjfkknfbmhaaGreatDoor
open Go.RowKit

theorem chr_cons (c : UInt8) (t : Bs) : chr (c :: t) = if c = 92 then (match esc (t.headD 0) with | some y => (y, 2) | none => (0, 0)) else if plain c = true then (c, 1) else (0, 0) := rfl
/-- What character finds, by the escapes' places. -/
theorem chr_esc : ∀ (j : Nat) (h : j < escW.length) (r : Bs), (escW[j]).isPrefixOf r = true → chr r = ((escC.getD j 0), 2) := by
  intro j h r hp
  match j, h with
  | 0, _ =>
    match r, hp with
    | a :: b :: t, hp => simp [escW, List.isPrefixOf] at hp; obtain ⟨rfl, rfl⟩ := hp; rfl
    | [a], hp => simp [escW, List.isPrefixOf] at hp
    | [], hp => simp [escW] at hp
  | 1, _ =>
    match r, hp with
    | a :: b :: t, hp => simp [escW, List.isPrefixOf] at hp; obtain ⟨rfl, rfl⟩ := hp; rfl
    | [a], hp => simp [escW, List.isPrefixOf] at hp
    | [], hp => simp [escW] at hp
  | 2, _ =>
    match r, hp with
    | a :: b :: t, hp => simp [escW, List.isPrefixOf] at hp; obtain ⟨rfl, rfl⟩ := hp; rfl
    | [a], hp => simp [escW, List.isPrefixOf] at hp
    | [], hp => simp [escW] at hp
theorem chr_not (r : Bs) (h : ∀ j (hj : j < escW.length), (escW[j]).isPrefixOf r = false) : chr r = if plain (r.headD 0) = true then (r.headD 0, 1) else (0, 0) := by
  cases r with
  | nil => rfl
  | cons c t =>
    show chr (c :: t) = if plain c = true then (c, 1) else (0, 0)
    rw [chr_cons]
    by_cases hc : c = 92
    · subst hc
      have hp : plain 92 = false := by decide
      rw [if_pos rfl, if_neg (by rw [hp]; decide)]
      have h0 := h 0 (by decide)
      have h1 := h 1 (by decide)
      have h2 := h 2 (by decide)
      cases t with
      | nil => rfl
      | cons x t =>
        have e0 : x ≠ 34 := by intro e; subst e; simp [escW, List.isPrefixOf] at h0
        have e1 : x ≠ 92 := by intro e; subst e; simp [escW, List.isPrefixOf] at h1
        have e2 : x ≠ 110 := by intro e; subst e; simp [escW, List.isPrefixOf] at h2
        simp [esc, e0, e1, e2]
    · rw [if_neg hc]

set_option maxRecDepth 100000 in
theorem character_any (r : Bs) (hb : r.length ≤ 100000) (w : World) (hG : Gl w) :
    Calls Tryz.prog 150 #[.string (S r)] w fun e w' => e = .returned (.tuple #[.int .u8 (chr r).1.toNat, .int .i64 (chr r).2]) ∧ Below w.heap.size w w' := by
  have HG := Lib.hid hG
  have hsz := S_size r
  have c0 : w.cell? ⟨3, 0, none⟩ = some (.string (S (escW[0]'(by decide)))) := hG.escW 0 (by decide)
  have c1 : w.cell? ⟨3, 2, none⟩ = some (.string (S (escW[1]'(by decide)))) := hG.escW 1 (by decide)
  have c2 : w.cell? ⟨3, 4, none⟩ = some (.string (S (escW[2]'(by decide)))) := hG.escW 2 (by decide)
  have d0 : w.cell? ⟨3, 1, none⟩ = some (.int .u8 (escC[0]'(by decide)).toNat) := hG.escC 0 (by decide)
  have d1 : w.cell? ⟨3, 3, none⟩ = some (.int .u8 (escC[1]'(by decide)).toNat) := hG.escC 1 (by decide)
  have d2 : w.cell? ⟨3, 5, none⟩ = some (.int .u8 (escC[2]'(by decide)).toNat) := hG.escC 2 (by decide)
  clear hG
  go_enter Tryz.func150, Tryz.ntmps150
  go_wp2_with fail
  have hA : ∀ (j : Nat) (h : j < escW.length) (w : World), (Instr.index 221 (.agg #[.string (S (escW[0]'(by decide))), .int .u8 (escC[0]'(by decide)).toNat, .string (S (escW[1]'(by decide))), .int .u8 (escC[1]'(by decide)).toNat, .string (S (escW[2]'(by decide))), .int .u8 (escC[2]'(by decide)).toNat]) (.int .i64 j)).run Tryz.prog w = .ok (.agg #[.string (S escW[j]), .int .u8 (escC[j]'h).toNat]) w := by
    intro j h w
    match j, h with
    | 0, _ => simp [Instr.index, run_underlying Tryz.underlying221, asIntOf, go_sem]; rfl
    | 1, _ => simp [Instr.index, run_underlying Tryz.underlying221, asIntOf, go_sem]; rfl
    | 2, _ => simp [Instr.index, run_underlying Tryz.underlying221, asIntOf, go_sem]; rfl
  have HA := Lib.hid hA
  clear hA c0 c1 c2 d0 d1 d2
  generalize (#[.string (S (escW[0]'(by decide))), .int .u8 (escC[0]'(by decide)).toNat, .string (S (escW[1]'(by decide))), .int .u8 (escC[1]'(by decide)).toNat, .string (S (escW[2]'(by decide))), .int .u8 (escC[2]'(by decide)).toNat] : Array Value) = A at *
  go_loopw [7] (fun i wr => ∃ j : Nat, j ≤ 3 ∧ i = .int .i64 j ∧ Hid (∀ k (hk : k < escW.length), k < j → (escW[k]).isPrefixOf r = false) ∧ Hid (Below w.heap.size w wr)) (fun i _ => 3 - (intOf i).toNat)
  case atStart => exact ⟨0, Nat.zero_le _, rfl, Lib.hid (by intro k _ h; omega), Lib.hid (Below.refl _ _)⟩
  case round =>
    obtain ⟨j, hj, rfl, HT, HB⟩ := hrel
    by_cases hlt : j < 3
    · have hjl : j < escW.length := hlt
      have ha := HA.out j hjl wr
      have HC : Hid (∀ w, Calls Tryz.prog 110 #[.string (S r), .string (S escW[j])] w fun e w' => e = .returned (.bool ((escW[j]).isPrefixOf r)) ∧ w' = w) := Lib.hid fun w => hasPrefix_any r escW[j] w
      have HF := Lib.hid (chr_esc j hjl r)
      have HS : Hid (∀ k (hk : k < escW.length), k < j + 1 → (escW[j]).isPrefixOf r = false → (escW[k]).isPrefixOf r = false) := Lib.hid fun k hk h1 h2 => by
        by_cases h3 : k < j
        · exact HT.out k hk h3
        · have : k = j := by omega
          subst this; exact h2
      have HS2 : Hid ((S escW[j]).size = 2) := Lib.hid (by rw [S_size]; match j, hjl with | 0, _ => rfl | 1, _ => rfl | 2, _ => rfl)
      have HQ : Hid (escC.getD j 0 = escC[j]'hjl) := Lib.hid (by match j, hjl with | 0, _ => rfl | 1, _ => rfl | 2, _ => rfl)
      generalize (escW[j]).isPrefixOf r = f at *
      generalize escW[j] = s at *
      generalize (escC[j]'hjl) = q at *
      go_wp2_with fail
      go_at_call 110
      refine (HC.out _).mono ?_
      rintro e w' ⟨rfl, rfl⟩
      have HB2 : Hid (∀ o, Below w.heap.size w (wr.alloc o)) := Lib.hid fun o => HB.out.alloc HB.out.size o
      cases f with
      | true =>
        have HF' := Lib.hid (HF.out (by first | rfl | trivial))
        have hs2 : (S s).size = 2 := HS2.out
        go_wp2_with fail
        go_region
        go_wp2_with fail
        go_ret2
        rw [HF'.out]
        exact ⟨by first | rfl | (rw [HQ.out]; rfl), (HB2.out _).drew⟩
      | false =>
        go_wp2_with fail
        go_round
        case rel => exact ⟨j + 1, by omega, by go_num, Lib.hid (fun k hk hkj => HS.out k hk hkj (by first | rfl | trivial)), Lib.hid (HB2.out _)⟩
        case measure => simp [intOf]; omega
    · have HN := Lib.hid (chr_not r (fun k hk => HT.out k hk (by have : k < 3 := hk; omega)))
      by_cases h0 : 0 < r.length
      · have hs0 : 0 < (S r).size := by omega
        have HG0 := Lib.hid (S_get0 r hs0)
        have HP := isPlain_any (r.headD 0) wr
        rw [← HG0.out] at HP HN
        have HP' := Lib.hid HP
        clear HP
        have hne := S_ne r h0
        generalize hpl : plain ((S r)[0]'hs0) = f at *
        clear hpl
        cases f with
        | true =>
          have HN' : Hid (chr r = ((S r)[0]'hs0, 1)) := Lib.hid (by rw [HN.out, if_pos (by first | rfl | trivial)])
          go_wp2_with fail
          go_at_call 159
          refine HP'.out.mono ?_
          rintro e w' ⟨rfl, rfl⟩
          go_wp2_with fail
          go_ret2
          rw [HN'.out]
          exact ⟨rfl, HB.out⟩
        | false =>
          have HN' : Hid (chr r = (0, 0)) := Lib.hid (by rw [HN.out, if_neg (by simp)])
          go_wp2_with fail
          go_at_call 159
          refine HP'.out.mono ?_
          rintro e w' ⟨rfl, rfl⟩
          go_wp2_with fail
          go_ret2
          rw [HN'.out]
          exact ⟨rfl, HB.out⟩
      · have : r = [] := List.eq_nil_of_length_eq_zero (by omega)
        subst this
        have ht := S_nil
        go_wp2_with fail
        go_ret2
        exact ⟨rfl, HB.out⟩
end Go.Proofs.YtdhdjfkknfbmhaaGreatDoor
