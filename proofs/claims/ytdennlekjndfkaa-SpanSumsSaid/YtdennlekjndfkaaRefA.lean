import Derived.Test.YtdennlekjndfkaaBase
import Derived.Lib.Hide
import Derived.Deep.QuietTactic
import Derived.BigQuiet
namespace Go.Proofs.Ytdennlekjndfkaa
open Go.RowKit

set_option maxHeartbeats 400000 in
theorem check_any (s : Sp) (hs : FitSp s) (w : World) :
    Calls Try.prog 19 #[.agg #[.int .i64 s.1, .int .i64 s.2]] w fun e w' => e = .returned (.int .i64 (errSp s)) ∧ Below w.heap.size w w' := by
  obtain ⟨lo, hi⟩ := s
  obtain ⟨⟨f1, f2⟩, f3, f4⟩ := hs
  dsimp only at *
  by_cases h1 : lo < -70368744177664
  · have E : errSp (lo, hi) = 10 := by unfold errSp; rw [(okSp_no _).2 (.inl h1)]; rfl
    rw [E]; clear E
    go_enter Try.func19, Try.ntmps19
    go_wp2
    go_ret
    exact ⟨rfl, (Below.refl _ _).alloc (Nat.le_refl _) _⟩
  by_cases h2 : 70368744177664 < hi
  · have E : errSp (lo, hi) = 10 := by unfold errSp; rw [(okSp_no _).2 (.inr (.inl h2))]; rfl
    rw [E]; clear E
    go_enter Try.func19, Try.ntmps19
    go_wp2
    go_ret
    exact ⟨rfl, (Below.refl _ _).alloc (Nat.le_refl _) _⟩
  by_cases h3 : hi < lo
  · have E : errSp (lo, hi) = 10 := by unfold errSp; rw [(okSp_no _).2 (.inr (.inr h3))]; rfl
    rw [E]; clear E
    go_enter Try.func19, Try.ntmps19
    go_wp2
    go_ret
    exact ⟨rfl, (Below.refl _ _).alloc (Nat.le_refl _) _⟩
  · have E : errSp (lo, hi) = 0 := by unfold errSp; rw [(okSp_iff _).2 ⟨by simp; omega, by simp; omega, by simp; omega⟩]; rfl
    rw [E]; clear E
    go_enter Try.func19, Try.ntmps19
    go_wp2
    go_ret
    exact ⟨rfl, (Below.refl _ _).alloc (Nat.le_refl _) _⟩

set_option maxHeartbeats 400000 in
theorem refCheck_any (s : Sp) (hs : FitSp s) (w : World) :
    Calls Try.prog 20 #[.agg #[.int .i64 s.1, .int .i64 s.2]] w fun e w' => e = .returned (.int .i64 (errSp s)) ∧ Below w.heap.size w w' := by
  obtain ⟨lo, hi⟩ := s
  obtain ⟨⟨f1, f2⟩, f3, f4⟩ := hs
  dsimp only at *
  by_cases h1 : lo < -70368744177664
  · have E : errSp (lo, hi) = 10 := by unfold errSp; rw [(okSp_no _).2 (.inl h1)]; rfl
    rw [E]; clear E
    go_enter Try.func20, Try.ntmps20
    go_wp2
    go_ret
    exact ⟨rfl, (Below.refl _ _).alloc (Nat.le_refl _) _⟩
  by_cases h2 : 70368744177664 < hi
  · have E : errSp (lo, hi) = 10 := by unfold errSp; rw [(okSp_no _).2 (.inr (.inl h2))]; rfl
    rw [E]; clear E
    go_enter Try.func20, Try.ntmps20
    go_wp2
    go_ret
    exact ⟨rfl, (Below.refl _ _).alloc (Nat.le_refl _) _⟩
  by_cases h3 : hi < lo
  · have E : errSp (lo, hi) = 10 := by unfold errSp; rw [(okSp_no _).2 (.inr (.inr h3))]; rfl
    rw [E]; clear E
    go_enter Try.func20, Try.ntmps20
    go_wp2
    go_ret
    exact ⟨rfl, (Below.refl _ _).alloc (Nat.le_refl _) _⟩
  · have E : errSp (lo, hi) = 0 := by unfold errSp; rw [(okSp_iff _).2 ⟨by simp; omega, by simp; omega, by simp; omega⟩]; rfl
    rw [E]; clear E
    go_enter Try.func20, Try.ntmps20
    go_wp2
    go_ret
    exact ⟨rfl, (Below.refl _ _).alloc (Nat.le_refl _) _⟩


theorem inS_take (l : List Sp) (t : Int) (k : Nat) (h : k < l.length) : inS (l.take (k + 1)) t = (inS (l.take k) t || (decide (l[k].1 ≤ t) && decide (t ≤ l[k].2))) := by
  unfold inS; rw [List.take_succ_eq_append_getElem h, List.any_append]; simp
theorem inS_yes (l : List Sp) (t : Int) (k : Nat) (h : k < l.length) (h1 : l[k].1 ≤ t) (h2 : t ≤ l[k].2) : inS l t = true := by
  unfold inS; rw [List.any_eq_true]; exact ⟨l[k], List.getElem_mem h, by simp [h1, h2]⟩

set_option maxHeartbeats 400000 in
theorem refIn_any (p : Option Addr) (cap : Nat) (l : List Sp) (t : Int) (w : World) (B : Nat) (hl : SpAt w B p l) :
    Calls Try.prog 22 #[.slice p l.length cap, .int .i64 t] w fun e w' => e = .returned (.bool (inS l t)) ∧ w' = w := by
  have hlen := hl.len
  go_enter Try.func22, Try.ntmps22
  go_wp2
  go_loop [5] (fun i => ∃ k : Nat, k ≤ l.length ∧ i = .int .i64 k ∧ inS (l.take k) t = false) (fun i => l.length - (intOf i).toNat)
  case atStart => exact ⟨0, Nat.zero_le _, rfl, rfl⟩
  case round =>
    obtain ⟨k, hk, rfl, hno⟩ := hrel
    have HNO := Lib.hid hno; clear hno
    by_cases hlt : k < l.length
    · obtain ⟨b, off, rfl, _, _, hc⟩ := hl.at' (by intro h; simp [h] at hlt)
      obtain ⟨c1, c2⟩ := hc k hlt
      have HT := Lib.hid (inS_take l t k hlt)
      have HY := Lib.hid (inS_yes l t k hlt)
      have HC := Lib.hid hc; clear hc
      generalize l[k].1 = x1 at *
      generalize l[k].2 = x2 at *
      by_cases g1 : x1 ≤ t
      · by_cases g2 : t ≤ x2
        · go_wp2
          go_ret
          exact ⟨ret_bool (HY.out g1 g2).symm, rfl⟩
        · go_wp2
          go_round
          case rel => exact ⟨k + 1, by omega, by go_num, by rw [HT.out, HNO.out]; simp [g2]⟩
          case measure => simp [intOf]; omega
      · go_wp2
        go_round
        case rel => exact ⟨k + 1, by omega, by go_num, by rw [HT.out, HNO.out]; simp [g1]⟩
        case measure => simp [intOf]; omega
    · go_wp2
      go_ret
      exact ⟨ret_bool (by rw [← HNO.out, List.take_of_length_le (by omega)]), rfl⟩
end Go.Proofs.Ytdennlekjndfkaa
