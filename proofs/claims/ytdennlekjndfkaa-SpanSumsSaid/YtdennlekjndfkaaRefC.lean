import Derived.Test.YtdennlekjndfkaaRefB
import Derived.WalkSmall
namespace Go.Proofs.Ytdennlekjndfkaa
open Go.RowKit

theorem eqSp (a b c d : Int) (w : World) : (binOp .eql 23 (.agg #[.int .i64 a, .int .i64 b]) (.agg #[.int .i64 c, .int .i64 d])).run Try.prog w = .ok (.bool (a == c && b == d)) w := by
  have hS : Try.prog.underlying 23 = some (.struct (Try.prog.fieldsOf 23)) := by kernel_rfl
  have hp : Try.prog.stoodInHeld 23 = false := by kernel_rfl
  rw [run_eql_struct, show (10000 : Nat) = 9999 + 1 from rfl, run_equalIn_agg w 9999 23 _ _ hS hp]
  simp only [Program.fieldsOf, Try.underlying23]
  have u3 := Try.underlying3
  go_simp
  by_cases h1 : a = c <;> by_cases h2 : b = d <;> simp [h1, h2]
theorem neSp (a b c d : Int) (w : World) : (binOp .neq 23 (.agg #[.int .i64 a, .int .i64 b]) (.agg #[.int .i64 c, .int .i64 d])).run Try.prog w = .ok (.bool (!(a == c && b == d))) w := by
  have hS : Try.prog.underlying 23 = some (.struct (Try.prog.fieldsOf 23)) := by kernel_rfl
  have hp : Try.prog.stoodInHeld 23 = false := by kernel_rfl
  rw [run_neq_struct, show (10000 : Nat) = 9999 + 1 from rfl, run_equalIn_agg w 9999 23 _ _ hS hp]
  simp only [Program.fieldsOf, Try.underlying23]
  have u3 := Try.underlying3
  go_simp
  by_cases h1 : a = c <;> by_cases h2 : b = d <;> simp [h1, h2]

theorem take_eq (a b : List Sp) (k : Nat) (ha : k < a.length) (hb : k < b.length) (h : a.take k = b.take k) (h2 : a[k] = b[k]) : a.take (k + 1) = b.take (k + 1) := by
  rw [List.take_succ_eq_append_getElem ha, List.take_succ_eq_append_getElem hb, h, h2]

set_option maxHeartbeats 400000 in
theorem same_any (p q : Option Addr) (cap cap' : Nat) (a b : List Sp) (w : World) (B B' : Nat) (ha : SpAt w B p a) (hb : SpAt w B' q b) :
    Calls Try.prog 23 #[.slice p a.length cap, .slice q b.length cap'] w fun e w' => e = .returned (.bool (decide (a = b))) ∧ Below w.heap.size w w' := by
  have hla := ha.len
  have hlb := hb.len
  by_cases hlen : a.length = b.length
  · have HL := Lib.hid hlen
    rw [← hlen]
    clear hlen hlb
    go_enter Try.func23, Try.ntmps23
    go_wp2
    go_loopw [5] (fun i wr => ∃ k : Nat, k ≤ a.length ∧ i = .int .i64 k ∧ Hid (a.take k = b.take k) ∧ Below w.heap.size w wr) (fun i _ => a.length - (intOf i).toNat)
    case atStart => exact ⟨0, Nat.zero_le _, rfl, rfl, Below.refl _ _⟩
    case round =>
      obtain ⟨k, hk, rfl, HNO, hbel⟩ := hrel
      have HBEL := Lib.hid hbel
      by_cases hlt : k < a.length
      · have hlt2 : k < b.length := by have := HL.out; omega
        obtain ⟨b1, o1, rfl, _, _, hc⟩ := (ha.below hbel).at' (by intro h; simp [h] at hlt)
        obtain ⟨b2, o2, rfl, _, _, hd⟩ := (hb.below hbel).at' (by intro h; simp [h] at hlt2)
        obtain ⟨c1, c2⟩ := hc k hlt
        obtain ⟨d1, d2⟩ := hd k hlt2
        have HT := Lib.hid (take_eq a b k hlt hlt2)
        have HN := Lib.hid (show a = b → a[k] = b[k] from fun h => by subst h; rfl)
        clear hc hd hbel
        generalize a[k] = s at *
        generalize b[k] = u at *
        obtain ⟨s1, s2⟩ := s
        obtain ⟨u1, u2⟩ := u
        have hne := fun w => neSp s1 s2 u1 u2 w
        cases hx : (s1 == u1 && s2 == u2) with
        | true =>
          rw [hx] at hne
          have HX := Lib.hid hx; clear hx
          go_wp2
          go_quiet (fail)
          go_wp2
          go_roundw
          case rel => exact ⟨k + 1, by omega, by go_num, HT.out HNO.out (by have := HX.out; simp at this; simp [this]), below_drewN HBEL.out _⟩
          case measure => simp [intOf]; omega
        | false =>
          rw [hx] at hne
          have HX := Lib.hid hx; clear hx
          go_wp2
          go_quiet (fail)
          go_wp2
          go_ret
          exact ⟨ret_bool (decide_eq_false fun h => by have h1 := HN.out h; have h2 := HX.out; simp at h1 h2; exact h2 h1.1 h1.2).symm, below_drewN HBEL.out _⟩
      · clear hbel
        go_wp2
        go_ret
        exact ⟨ret_bool (decide_eq_true (by have := HNO.out; have h2 := HL.out; rwa [List.take_of_length_le (by omega), List.take_of_length_le (by omega)] at this)).symm, HBEL.out⟩
  · have HN := Lib.hid (decide_eq_false (fun h : a = b => hlen (by rw [h])))
    have hlen' : ((a.length : Int) == (b.length : Int)) = false := beq_eq_false_iff_ne.2 (by omega)
    go_enter Try.func23, Try.ntmps23
    go_wp2
    go_ret
    exact ⟨ret_bool HN.out.symm, Below.refl _ _⟩
end Go.Proofs.Ytdennlekjndfkaa
