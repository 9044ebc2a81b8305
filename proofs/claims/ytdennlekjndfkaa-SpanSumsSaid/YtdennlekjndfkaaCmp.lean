/- The order of spans: compare, cmp.Or, cmp.Compare. -/
import Derived.Test.YtdennlekjndfkaaBase
import Derived.Lib.Hide
import Derived.WalkSmall
import Derived.Sort.Grow
import Derived.StillTailTactics
import Derived.Deep.QuietTactic
import Derived.BigQuiet
namespace Go.Proofs.Ytdennlekjndfkaa
open Go.RowKit Go.Sort

def cmpI (x y : Int) : Int := if x < y then -1 else if y < x then 1 else 0
def orI (x y : Int) : Int := if x = 0 then y else x
def cmpSp (x y : Sp) : Int := orI (cmpI x.1 y.1) (cmpI x.2 y.2)

set_option maxHeartbeats 400000 in
theorem isNaN_any (x : Int) (w : World) : Calls Try.prog 64 #[.int .i64 x] w fun e w' => e = .returned (.bool false) ∧ w' = w := by
  go_enter Try.func64, Try.ntmps64
  go_wp2
  go_ret
  exact ⟨ret_bool (by simp), rfl⟩

set_option maxHeartbeats 400000 in
theorem compareI_any (x y : Int) (w : World) : Calls Try.prog 60 #[.int .i64 x, .int .i64 y] w fun e w' => e = .returned (.int .i64 (cmpI x y)) ∧ w' = w := by
  by_cases h1 : x < y
  · have E : cmpI x y = -1 := by unfold cmpI; rw [if_pos h1]
    rw [E]; clear E
    go_enter Try.func60, Try.ntmps60
    go_wp2_with (go_at_call 64; refine (isNaN_any _ _).mono ?_; rintro e w' ⟨rfl, rfl⟩)
    go_ret
    exact ⟨rfl, rfl⟩
  by_cases h2 : y < x
  · have E : cmpI x y = 1 := by unfold cmpI; rw [if_neg h1, if_pos h2]
    rw [E]; clear E
    go_enter Try.func60, Try.ntmps60
    go_wp2_with (go_at_call 64; refine (isNaN_any _ _).mono ?_; rintro e w' ⟨rfl, rfl⟩)
    go_ret
    exact ⟨rfl, rfl⟩
  · have E : cmpI x y = 0 := by unfold cmpI; rw [if_neg h1, if_neg h2]
    rw [E]; clear E
    go_enter Try.func60, Try.ntmps60
    go_wp2_with (go_at_call 64; refine (isNaN_any _ _).mono ?_; rintro e w' ⟨rfl, rfl⟩)
    go_ret
    exact ⟨rfl, rfl⟩

set_option maxHeartbeats 400000 in
theorem or2_any (x y : Int) (b : Nat) (w : World) (c1 : w.cell? ⟨b, 0, none⟩ = some (.int .i64 x)) (c2 : w.cell? ⟨b, 1, none⟩ = some (.int .i64 y)) :
    Calls Try.prog 59 #[.slice (some ⟨b, 0, none⟩) 2 2] w fun e w' => e = .returned (.int .i64 (orI x y)) ∧ w' = w := by
  unfold orI
  cases hx : (x != 0) with
  | true =>
    have E : (if x = 0 then y else x) = x := by rw [if_neg]; simpa using hx
    rw [E]; clear E
    go_enter Try.func59, Try.ntmps59
    go_wp2
    go_rounds 3
    all_goals go_ret
    all_goals exact ⟨rfl, rfl⟩
  | false =>
    obtain rfl : x = 0 := by simpa using hx
    rw [if_pos rfl]
    clear hx
    cases hy : (y != 0) with
    | true =>
      go_enter Try.func59, Try.ntmps59
      go_wp2
      go_rounds 3
      all_goals go_ret
      all_goals exact ⟨rfl, rfl⟩
    | false =>
      obtain rfl : y = 0 := by simpa using hy
      clear hy
      go_enter Try.func59, Try.ntmps59
      go_wp2
      go_rounds 3
      all_goals go_ret
      all_goals exact ⟨rfl, rfl⟩

set_option maxRecDepth 100000 in
set_option maxHeartbeats 1000000 in
theorem compare_any (x y : Sp) (W : World) : Calls Try.prog 50 #[.agg #[.int .i64 x.1, .int .i64 x.2], .agg #[.int .i64 y.1, .int .i64 y.2]] W fun e w' => e = .returned (.int .i64 (cmpSp x y)) ∧ ∃ q os', w' = grow (W.drewN q) os' := by
  go_enter Try.func50, Try.ntmps50
  go_wp2
  have hW2 : ∃ os', (W.alloc (.cells #[.int .i64 x.1, .int .i64 x.2] 23)).alloc (.cells #[.int .i64 y.1, .int .i64 y.2] 23) = grow W os' := ⟨_, by rw [alloc_eq_grow, alloc_eq_grow, grow_grow]⟩
  have c1 : ((W.alloc (.cells #[.int .i64 x.1, .int .i64 x.2] 23)).alloc (.cells #[.int .i64 y.1, .int .i64 y.2] 23)).cell? ⟨W.heap.size, 0, none⟩ = some (.int .i64 x.1) := by go_simp
  have c2 : ((W.alloc (.cells #[.int .i64 x.1, .int .i64 x.2] 23)).alloc (.cells #[.int .i64 y.1, .int .i64 y.2] 23)).cell? ⟨W.heap.size, 1, none⟩ = some (.int .i64 x.2) := by go_simp
  have c3 : ((W.alloc (.cells #[.int .i64 x.1, .int .i64 x.2] 23)).alloc (.cells #[.int .i64 y.1, .int .i64 y.2] 23)).cell? ⟨W.heap.size + 1, 0, none⟩ = some (.int .i64 y.1) := by go_simp
  have c4 : ((W.alloc (.cells #[.int .i64 x.1, .int .i64 x.2] 23)).alloc (.cells #[.int .i64 y.1, .int .i64 y.2] 23)).cell? ⟨W.heap.size + 1, 1, none⟩ = some (.int .i64 y.2) := by go_simp
  obtain ⟨os2, hW2⟩ := hW2
  generalize hW : (W.alloc (.cells #[.int .i64 x.1, .int .i64 x.2] 23)).alloc (.cells #[.int .i64 y.1, .int .i64 y.2] 23) = W2 at *
  have HW := Lib.hid hW2
  clear hW hW2
  generalize hn : W.heap.size = bb at *
  clear hn
  refine wp_region_still_tail 10 (by kernel_rfl) (by kernel_rfl) ?_
  simp only [List.take_succ_cons, List.take_zero, List.drop_succ_cons, List.drop_zero]
  change wpStill _ _ W2.drew _ _ _
  repeat still_step
  still_call (compareI_any x.1 y.1 _)
  repeat still_step
  still_call (compareI_any x.2 y.2 _)
  refine wpStill_nil ?_
  change wpList _ _ _ _ _ W2.drew
  generalize hr1 : cmpI x.1 y.1 = r1
  generalize hr2 : cmpI x.2 y.2 = r2
  have HR : Hid (cmpSp x y = orI r1 r2) := by rw [← hr1, ← hr2]; rfl
  clear hr1 hr2
  go_wp2_with (go_at_call 59; refine (or2_any r1 r2 _ _ (by simp) (by simp)).mono ?_; rintro e w' ⟨rfl, rfl⟩)
  go_ret
  refine ⟨ret_int HR.out.symm, 1, os2 ++ #[.cells #[.int .i64 r1, .int .i64 r2] 3], ?_⟩
  rw [HW.out, alloc_eq_grow, grow_grow]; rfl
end Go.Proofs.Ytdennlekjndfkaa
