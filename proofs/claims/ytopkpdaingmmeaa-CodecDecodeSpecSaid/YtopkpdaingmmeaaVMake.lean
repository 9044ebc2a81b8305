/- Int, Text, List: values made; texts of bytes. -/
import Derived.Test.YtopkpdaingmmeaaVSame
namespace Go.Proofs.Ytopkpdaingmmeaa
open Go.RowKit

theorem int_any (n : Int) (w : World) :
    Calls Try.prog 23 #[.int .i64 n] w fun e w' => e = .returned (vV (.mk 1 n ⟨#[]⟩ []) none 0) ∧ Below w.heap.size w w' := by
  go_enter Try.func23, Try.ntmps23
  go_wp2_with fail
  refine bodyPost_ret (v := vV (.mk 1 n ⟨#[]⟩ []) none 0) ?_ rfl ⟨rfl, (Below.refl _ w).alloc (Nat.le_refl _) _⟩
  simp [results, Try.results23, go_sem, vV]
  exact ⟨rfl, rfl, rfl, rfl⟩
theorem text_any (s : ByteArray) (w : World) :
    Calls Try.prog 24 #[.string s] w fun e w' => e = .returned (vV (.mk 2 0 s []) none 0) ∧ Below w.heap.size w w' := by
  go_enter Try.func24, Try.ntmps24
  go_wp2_with fail
  refine bodyPost_ret (v := vV (.mk 2 0 s []) none 0) ?_ rfl ⟨rfl, (Below.refl _ w).alloc (Nat.le_refl _) _⟩
  simp [results, Try.results24, go_sem, vV]
  exact ⟨rfl, rfl, rfl, rfl⟩
theorem list_any (p : Option Addr) (len cap : Nat) (w : World) :
    Calls Try.prog 22 #[.slice p len cap] w fun e w' => e = .returned (.agg #[.int .i64 3, .int .i64 0, .string ⟨#[]⟩, .slice p len cap]) ∧ Below w.heap.size w w' := by
  go_enter Try.func22, Try.ntmps22
  go_wp2_with fail
  refine bodyPost_ret (v := .agg #[.int .i64 3, .int .i64 0, .string ⟨#[]⟩, .slice p len cap]) ?_ rfl ⟨rfl, (Below.refl _ w).alloc (Nat.le_refl _) _⟩
  simp [results, Try.results22, go_sem]

theorem BAt.lies {w : World} {B : Nat} {p : Option Addr} {l : List UInt8} (h : BAt w B p l) : Lies w w.heap.size p l := fun hne => by
  obtain ⟨b, off, e1, _, e2, e3⟩ := h.at' hne
  exact ⟨b, off, e1, e2, e3⟩
/-- string(b). -/
theorem strOf {w : World} {B : Nat} {p : Option Addr} {l : List UInt8} (h : BAt w B p l) (c : Nat) : (convert 27 9 (.slice p l.length c)).run Try.prog w = .ok (.string ⟨l.toArray⟩) w :=
  strOf_bytes w _ p l h.lies c 9 Try.underlying9

theorem enc_i3 : enc (.mk 1 (-3) ⟨#[]⟩ []) = [1, 5] := by
  rw [enc, if_pos rfl, show uns (-3) = 5 from rfl, num_lt (by decide)]; rfl
theorem enc_i100 : enc (.mk 1 100 ⟨#[]⟩ []) = [1, 200, 1] := by
  rw [enc, if_pos rfl, show uns 100 = 200 from rfl, num_ge (by decide), num_lt (by decide)]; rfl
theorem enc_ab : enc (.mk 2 0 ⟨#[97, 98]⟩ []) = [2, 2, 97, 98] := by
  rw [enc, if_neg (by decide), if_pos rfl, num_lt (by decide)]; rfl
def exL : V := .mk 3 0 ⟨#[]⟩ [.mk 1 100 ⟨#[]⟩ [], .mk 2 0 ⟨#[97, 98]⟩ []]
theorem enc_exL : enc exL = [3, 2, 1, 200, 1, 2, 2, 97, 98] := by
  unfold exL
  rw [enc, if_neg (by decide), if_neg (by decide), encL, encL, encL, enc_i100, enc_ab, num_lt (by decide)]; rfl
theorem formed_exL : formed exL = true := by
  unfold exL
  simp [formed, formedL]
  decide
theorem depth_exL : depth exL = 1 := by
  unfold exL
  simp [depth, depthL]
theorem good_exL : Good 16 exL := by
  refine ⟨formed_exL, by rw [depth_exL]; decide, ?_⟩
  unfold exL
  simp [Fits, FitsL, Fit64]
  decide
theorem decV_of {v : V} (h : Good 16 v) : decV (enc v) = v ∧ decE (enc v) = 0 := by
  have e : rdV 16 (enc v) = some (v, []) := (rdV_iff 16 (enc v) v []).2 ⟨h, by simp⟩
  unfold decV decE
  rw [e]
  exact ⟨rfl, rfl⟩
theorem errV_good {v : V} (h : Good 16 v) : errV v = 0 := by
  unfold errV
  rw [if_pos h.1, if_pos h.2.1]
theorem decE_bad1 : decE [] = 20 := by unfold decE; rw [rdV.eq_def]
theorem decE_bad2 : decE [1, 128, 0] = 20 := by unfold decE; rw [rdV.eq_def]; simp [rdNum]
theorem decE_bad3 : decE [1, 5, 0] = 20 := by unfold decE; rw [rdV.eq_def]; simp [rdNum]
theorem decE_bad4 : decE [2, 3, 97] = 20 := by unfold decE; rw [rdV.eq_def]; simp [rdNum]
end Go.Proofs.Ytopkpdaingmmeaa
