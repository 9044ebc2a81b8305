/- The program's isWord, isSign, sequence. -/
import Derived.Test.YtlcmedimgoaneaaGreatDoorKNext
import Derived.Test.YtlcmedimgoaneaaGreatDoorKSign
import Derived.Test.YtlcmedimgoaneaaGreatDoorKTime2
namespace Go.Proofs.YtlcmedimgoaneaaGreatDoor
open Go.RowKit

def word (l : Bs) : Bool := isL (l.headD 0) && (wdLen l.tail + 1 == l.length)
def signB (l : Bs) : Bool := l != [] && sgn l == l
set_option maxRecDepth 100000 in
theorem isWord_any (l : Bs) (hb : l.length ≤ 100000) (w : World) (hG : Gl w) :
    Calls Tryz.prog 68 #[.string (S l)] w fun e w' => e = .returned (.bool (word l)) ∧ Below w.heap.size w w' := by
  have hsz := S_size l
  have HW := Lib.hid (beginsWord_any l hb w hG)
  have HL : Hid (∀ w1 c r, Below w.heap.size w w1 → l = c :: r → Calls Tryz.prog 87 #[.string (S l)] w1 fun e w' => e = .returned (.int .i64 (wdLen l.tail + 1 : Nat)) ∧ w' = w1) := Lib.hid fun w1 c r hbw h => by
    subst h
    exact wordLength_any c r (by simpa using (by simp at hb; omega : r.length ≤ 100000)) w1 (hG.bel' hbw)
  have HE : Hid (word l = (isL (l.headD 0) && (wdLen l.tail + 1 == l.length))) := Lib.hid rfl
  have HN : Hid (isL (l.headD 0) = true → ∃ c r, l = c :: r) := Lib.hid fun h => by
    cases l with
    | nil => exact absurd h (by decide)
    | cons c r => exact ⟨c, r, rfl⟩
  have hwl := wdLen_le l.tail
  clear hG
  generalize isL (l.headD 0) = f at *
  generalize word l = res at *
  generalize wdLen l.tail = n at *
  generalize hlen : l.length = m at *
  clear hlen
  cases f with
  | false =>
    rw [Bool.false_and] at HE
    go_enter Tryz.func68, Tryz.ntmps68
    go_wp2_with fail
    go_at_call 53
    refine HW.out.mono ?_
    rintro e w1 ⟨rfl, hb'⟩
    have HB := Lib.hid hb'; clear hb'
    go_wp2_with fail
    go_ret
    rw [HE.out]
    exact ⟨rfl, HB.out⟩
  | true =>
    rw [Bool.true_and] at HE
    obtain ⟨c, r, hcr⟩ := HN.out rfl
    have HL := Lib.hid (fun w1 hbw => HL.out w1 c r hbw hcr)
    clear hcr HN
    have hq : (((n : Int) + 1) == (m : Int)) = (n + 1 == m) := by
      by_cases h : n + 1 = m
      · have h2 : (n : Int) + 1 = m := by omega
        rw [beq_iff_eq.2 h, beq_iff_eq.2 h2]
      · have h2 : ¬ ((n : Int) + 1 = m) := by omega
        rw [beq_eq_false_iff_ne.2 h, beq_eq_false_iff_ne.2 h2]
    go_enter Tryz.func68, Tryz.ntmps68
    go_wp2_with fail
    go_at_call 53
    refine HW.out.mono ?_
    rintro e w1 ⟨rfl, hb'⟩
    have HB := Lib.hid hb'; clear hb'
    go_wp2_with fail
    go_at_call 87
    refine (HL.out _ HB.out).mono ?_
    rintro e w2 ⟨rfl, rfl⟩
    go_wp2_with fail
    go_ret
    rw [HE.out]
    refine ⟨?_, HB.out⟩
    first | exact ret_bool hq | (rw [← hq]; rfl)

set_option maxRecDepth 100000 in
theorem isSign_any (l : Bs) (hb : l.length ≤ 100000) (w : World) (hG : Gl w) :
    Calls Tryz.prog 72 #[.string (S l)] w fun e w' => e = .returned (.bool (signB l)) ∧ Below w.heap.size w w' := by
  have hsz := S_size l
  have HF := Lib.hid (firstSign_any l hb w hG)
  clear hG
  by_cases h0 : l = []
  · subst h0
    have ht := S_nil
    go_enter Tryz.func72, Tryz.ntmps72
    go_wp2_with fail
    go_ret
    exact ⟨rfl, Below.refl _ _⟩
  · have hne := S_ne l (List.length_pos_iff.2 h0)
    have HE : Hid (signB l = (sgn l == l)) := Lib.hid (by unfold signB; simp [h0])
    clear h0
    go_enter Tryz.func72, Tryz.ntmps72
    go_wp2_with fail
    go_at_call 93
    refine HF.out.mono ?_
    rintro e w1 ⟨rfl, hb'⟩
    have HB := Lib.hid hb'; clear hb'
    go_wp2_with fail
    go_ret
    rw [HE.out]
    refine ⟨?_, HB.out⟩
    first | rfl | (refine ret_bool ?_; simp only [S_toList])

/-- What stands for a byte within a quoted text. -/
def seqB (c : UInt8) : Bs := if c = 34 then [92, 34] else if c = 92 then [92, 92] else if c = 10 then [92, 110] else if plain c = true then [c] else []
theorem seqB_esc (k : Nat) (h : k < escC.length) : seqB (escC[k]) = escW.getD k [] := by
  match k, h with
  | 0, _ => rfl
  | 1, _ => rfl
  | 2, _ => rfl
theorem seqB_not (c : UInt8) (h : ∀ k (hk : k < escC.length), escC[k] ≠ c) : seqB c = if plain c = true then [c] else [] := by
  have h0 := h 0 (by decide)
  have h1 := h 1 (by decide)
  have h2 := h 2 (by decide)
  unfold seqB
  rw [if_neg (fun e => h0 (by rw [e]; rfl)), if_neg (fun e => h1 (by rw [e]; rfl)), if_neg (fun e => h2 (by rw [e]; rfl))]
theorem rune_plain : ∀ n : Fin 256, plain (UInt8.ofNat n.val) = true → Utf8.encode (wrap32 ((UInt8.ofNat n.val).toNat : Int)) = S [UInt8.ofNat n.val] := by decide +kernel
set_option maxHeartbeats 1000000 in
set_option maxRecDepth 100000 in
theorem sequence_any (c : UInt8) (w : World) (hG : Gl w) :
    Calls Tryz.prog 95 #[.int .u8 c.toNat] w fun e w' => e = .returned (.string (S (seqB c))) ∧ Below w.heap.size w w' := by
  have HG := Lib.hid hG
  have c0 : w.cell? ⟨2, 0, none⟩ = some (.string (S (escW[0]'(by decide)))) := hG.escW 0 (by decide)
  have c1 : w.cell? ⟨2, 2, none⟩ = some (.string (S (escW[1]'(by decide)))) := hG.escW 1 (by decide)
  have c2 : w.cell? ⟨2, 4, none⟩ = some (.string (S (escW[2]'(by decide)))) := hG.escW 2 (by decide)
  have d0 : w.cell? ⟨2, 1, none⟩ = some (.int .u8 (escC[0]'(by decide)).toNat) := hG.escC 0 (by decide)
  have d1 : w.cell? ⟨2, 3, none⟩ = some (.int .u8 (escC[1]'(by decide)).toNat) := hG.escC 1 (by decide)
  have d2 : w.cell? ⟨2, 5, none⟩ = some (.int .u8 (escC[2]'(by decide)).toNat) := hG.escC 2 (by decide)
  clear hG
  go_enter Tryz.func95, Tryz.ntmps95
  go_wp2_with fail
  have hA : ∀ (j : Nat) (h : j < escW.length) (w : World), (Instr.index 120 (.agg #[.string (S (escW[0]'(by decide))), .int .u8 (escC[0]'(by decide)).toNat, .string (S (escW[1]'(by decide))), .int .u8 (escC[1]'(by decide)).toNat, .string (S (escW[2]'(by decide))), .int .u8 (escC[2]'(by decide)).toNat]) (.int .i64 j)).run Tryz.prog w = .ok (.agg #[.string (S escW[j]), .int .u8 (escC[j]'h).toNat]) w := by
    intro j h w
    match j, h with
    | 0, _ => simp [Instr.index, run_underlying Tryz.underlying120, asIntOf, go_sem]; rfl
    | 1, _ => simp [Instr.index, run_underlying Tryz.underlying120, asIntOf, go_sem]; rfl
    | 2, _ => simp [Instr.index, run_underlying Tryz.underlying120, asIntOf, go_sem]; rfl
  have HA := Lib.hid hA
  clear hA c0 c1 c2 d0 d1 d2
  generalize (#[.string (S (escW[0]'(by decide))), .int .u8 (escC[0]'(by decide)).toNat, .string (S (escW[1]'(by decide))), .int .u8 (escC[1]'(by decide)).toNat, .string (S (escW[2]'(by decide))), .int .u8 (escC[2]'(by decide)).toNat] : Array Value) = A at *
  go_loopw [6] (fun i wr => ∃ j : Nat, j ≤ 3 ∧ i = .int .i64 j ∧ Hid (∀ k (hk : k < escC.length), k < j → escC[k] ≠ c) ∧ Hid (Below w.heap.size w wr)) (fun i _ => 3 - (intOf i).toNat)
  case atStart => exact ⟨0, Nat.zero_le _, rfl, Lib.hid (by intro k _ h; omega), Lib.hid (Below.refl _ _)⟩
  case round =>
    obtain ⟨j, hj, rfl, HT, HB⟩ := hrel
    by_cases hlt : j < 3
    · have hjl : j < escW.length := hlt
      have ha := HA.out j hjl wr
      have HS : Hid (escC[j]'hjl ≠ c → ∀ k (hk : k < escC.length), k < j + 1 → escC[k] ≠ c) := Lib.hid fun h2 k hk h1 => by
        by_cases h3 : k < j
        · exact HT.out k hk h3
        · have : k = j := by omega
          subst this; exact h2
      have HQ : Hid (escC[j]'hjl = c → seqB c = escW[j]) := Lib.hid (fun e => by rw [← e, seqB_esc j hjl]; simp [List.getD, hjl])
      have HB2 : Hid (∀ o, Below w.heap.size w (wr.alloc o)) := Lib.hid fun o => HB.out.alloc HB.out.size o
      generalize escW[j] = s at *
      generalize (escC[j]'hjl) = q at *
      by_cases hq : q = c
      · subst hq
        go_wp2_with fail
        go_ret
        rw [HQ.out (by first | rfl | trivial)]
        exact ⟨rfl, HB2.out _⟩
      · have hqn : ((q.toNat : Int) == (c.toNat : Int)) = false := beq_eq_false_iff_ne.2 (fun e => hq (UInt8.toNat_inj.1 (by omega)))
        have HS2 := Lib.hid (HS.out hq)
        clear hq
        go_wp2_with fail
        go_round
        case rel => exact ⟨j + 1, by omega, by go_num, HS2, Lib.hid (HB2.out _)⟩
        case measure => simp [intOf]; omega
    · have HN := Lib.hid (seqB_not c (fun k hk => HT.out k hk (by have : k < 3 := hk; omega)))
      have HP := Lib.hid (isPlain_any c wr)
      cases hp : plain c with
      | true =>
        rw [hp] at HP HN
        go_wp2_with fail
        go_at_call 116
        refine HP.out.mono ?_
        rintro e w' ⟨rfl, rfl⟩
        go_wp2_with fail
        go_ret
        rw [HN.out, if_pos (by first | rfl | trivial)]
        refine ⟨?_, HB.out⟩
        refine congrArg (fun s => Ending.returned (.string s)) ?_
        exact all_bytes (p := fun c => plain c = true → Utf8.encode (wrap32 (c.toNat : Int)) = S [c]) rune_plain c hp
      | false =>
        rw [hp] at HP HN
        go_wp2_with fail
        go_at_call 116
        refine HP.out.mono ?_
        rintro e w' ⟨rfl, rfl⟩
        go_wp2_with fail
        go_ret
        rw [HN.out, if_neg (by decide)]
        exact ⟨rfl, HB.out⟩
end Go.Proofs.YtlcmedimgoaneaaGreatDoor
