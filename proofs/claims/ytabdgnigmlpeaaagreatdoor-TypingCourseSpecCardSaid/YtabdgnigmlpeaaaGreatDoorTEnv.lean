/- Valid environments; conditions without contents. -/
import Derived.Test.YtabdgnigmlpeaaaGreatDoorTRange
namespace Go.Proofs.YtabdgnigmlpeaaaGreatDoor
open Go.RowKit

theorem within1L_any (lo hi n : Int) (c : Nat) (w : World) (k : Nat) (hk : w.heap.size = k) :
    Calls Tryz.prog 51 #[.int .i64 lo, .int .i64 hi, .slice (some ⟨k, 0, none⟩) 1 c] (w.alloc (.cells #[.int .i64 n] 3)) fun e w' => e = .returned (.bool (inI lo hi n)) ∧ Below w.heap.size w w' := by
  subst hk
  have h := withinL_any lo hi [n] c w (by simp) 1 rfl
  rw [List.all_cons, List.all_nil, Bool.and_true] at h
  exact h
theorem En.ok_eq (x : En) : x.ok = (inI 0 7 x.d && (inI 0 4000 x.f && inI 0 1 x.s)) := by
  have h : ∀ a b n : Int, decide (a ≤ n ∧ n ≤ b) = inI a b n := fun a b n => by unfold inI; simp
  unfold En.ok
  rw [h, h, h]

set_option maxHeartbeats 1000000 in
theorem env_any (x : En) (w : World) :
    Calls Tryz.prog 20 #[.agg #[.int .i64 x.d, .int .i64 x.f, .int .i64 x.s]] w fun e w' => e = .returned (.int .i64 (envE x)) ∧ Below w.heap.size w w' := by
  have HA := Lib.hid ((Below.refl w.heap.size w).alloc (Nat.le_refl _) (.cells #[.int .i64 x.d, .int .i64 x.f, .int .i64 x.s] 42))
  have H1 := Lib.hid (fun W => within1L_any 0 7 x.d 1 W)
  have H2 := Lib.hid (fun W => within1L_any 0 4000 x.f 1 W)
  have H3 := Lib.hid (fun W => within1L_any 0 1 x.s 1 W)
  unfold envE
  rw [En.ok_eq]
  generalize inI 0 7 x.d = q1 at *
  generalize inI 0 4000 x.f = q2 at *
  generalize inI 0 1 x.s = q3 at *
  obtain ⟨d, f, s⟩ := x
  simp only at *
  cases q1 with
  | false =>
    go_enter Tryz.func20, Tryz.ntmps20
    go_wp2_with (go_at_call 51; (with_reducible refine (H1.out _ _ (by simp)).mono ?_); rintro e w1 ⟨rfl, hb⟩; have HB1 := Lib.hid (HA.out.trans (hb.mono HA.out.size)); clear hb)
    go_ret
    exact ⟨rfl, HB1.out⟩
  | true =>
    cases q2 with
    | false =>
      go_enter Tryz.func20, Tryz.ntmps20
      go_wp2_with fail
      go_at_call 51
      (with_reducible refine (H1.out _ _ (by simp)).mono ?_)
      rintro e w1 ⟨rfl, hb⟩
      have HB1 := Lib.hid (HA.out.trans (hb.mono HA.out.size))
      have c1 : w1.cell? ⟨w.heap.size, 1, none⟩ = some (.int .i64 f) := keepc hb (by simp [go_sem])
      clear hb
      go_wp2_with fail
      go_at_call 51
      (with_reducible refine (H2.out _ _ (by simp)).mono ?_)
      rintro e w2 ⟨rfl, hb⟩
      have HB2 := Lib.hid (HB1.out.trans (hb.mono HB1.out.size))
      clear hb
      go_wp2_with fail
      go_ret
      exact ⟨rfl, HB2.out⟩
    | true =>
      cases q3
      all_goals
        go_enter Tryz.func20, Tryz.ntmps20
        go_wp2_with fail
        go_at_call 51
        (with_reducible refine (H1.out _ _ (by simp)).mono ?_)
        rintro e w1 ⟨rfl, hb⟩
        have HB1 := Lib.hid (HA.out.trans (hb.mono HA.out.size))
        have c1 : w1.cell? ⟨w.heap.size, 1, none⟩ = some (.int .i64 f) := keepc hb (by simp [go_sem])
        have c2 : w1.cell? ⟨w.heap.size, 2, none⟩ = some (.int .i64 s) := keepc hb (by simp [go_sem])
        clear hb
        go_wp2_with fail
        go_at_call 51
        (with_reducible refine (H2.out _ _ (by simp)).mono ?_)
        rintro e w2 ⟨rfl, hb⟩
        have HB2 := Lib.hid (HB1.out.trans (hb.mono HB1.out.size))
        have c3 : w2.cell? ⟨w.heap.size, 2, none⟩ = some (.int .i64 s) := keepc hb c2
        clear hb
        go_wp2_with fail
        go_at_call 51
        (with_reducible refine (H3.out _ _ (by simp)).mono ?_)
        rintro e w3 ⟨rfl, hb⟩
        have HB3 := Lib.hid (HB2.out.trans (hb.mono HB2.out.size))
        clear hb
        go_wp2_with fail
        go_ret
        exact ⟨rfl, HB3.out⟩

def rowI (ns : List Int) : Array Value := (ns.map (Value.int .i64)).toArray
/-- zero, of numbers in a row that has just been laid. -/
theorem zeroL_any (ns : List Int) (c : Nat) (w : World) (hl : ns.length ≤ 100) (k : Nat) (hk : w.heap.size = k) :
    Calls Tryz.prog 149 #[.slice (some ⟨k, 0, none⟩) ns.length c] (w.alloc (.cells (rowI ns) 3)) fun e w' => e = .returned (.bool (ns.all (· == 0))) ∧ Below w.heap.size w w' := by
  subst hk
  have H := Lib.hid (withinL_any 0 0 ns c w hl _ rfl)
  rw [show (inI 0 0) = fun n => n == 0 from funext fun n => by rw [Bool.eq_iff_iff]; unfold inI; simp; omega] at H
  unfold rowI
  generalize (ns.all fun n => n == 0) = q at *
  generalize (Obj.cells (List.map (Value.int IntKind.i64) ns).toArray 3) = o at *
  generalize ns.length = l at *
  go_enter Tryz.func149, Tryz.ntmps149
  go_wp2_with (go_at_call 51; (with_reducible refine H.out.mono ?_); rintro e w1 ⟨rfl, hb⟩; have HB1 := Lib.hid hb; clear hb)
  go_ret
  exact ⟨rfl, HB1.out⟩
theorem zero2_any (a b : Int) (w : World) (k : Nat) (hk : w.heap.size = k) :
    Calls Tryz.prog 149 #[.slice (some ⟨k, 0, none⟩) 2 2] (w.alloc (.cells #[.int .i64 a, .int .i64 b] 3)) fun e w' => e = .returned (.bool (a == 0 && b == 0)) ∧ Below w.heap.size w w' := by
  have h := zeroL_any [a, b] 2 w (by simp) k hk
  rw [List.all_cons, List.all_cons, List.all_nil, Bool.and_true] at h
  exact h
theorem zero4_any (a b c d : Int) (w : World) (k : Nat) (hk : w.heap.size = k) :
    Calls Tryz.prog 149 #[.slice (some ⟨k, 0, none⟩) 4 4] (w.alloc (.cells #[.int .i64 a, .int .i64 b, .int .i64 c, .int .i64 d] 3)) fun e w' => e = .returned (.bool (a == 0 && (b == 0 && (c == 0 && d == 0)))) ∧ Below w.heap.size w w' := by
  have h := zeroL_any [a, b, c, d] 4 w (by simp) k hk
  rw [List.all_cons, List.all_cons, List.all_cons, List.all_cons, List.all_nil, Bool.and_true] at h
  exact h

set_option maxHeartbeats 1000000 in
theorem noCond_any (c : Cd) (p : Option Addr) (cap : Nat) (w : World) :
    Calls Tryz.prog 175 #[cV c p cap] w fun e w' => e = .returned (.bool (noB c)) ∧ Below w.heap.size w w' := by
  have HA := Lib.hid ((Below.refl w.heap.size w).alloc (Nat.le_refl _) (.cells #[.int .i64 c.k, .int .i64 c.v, .int .i64 c.n, .slice p c.ps.length cap] 40))
  have H := Lib.hid (fun W => zero4_any c.k c.v c.n c.ps.length W)
  have hn : (c.k == 0 && (c.v == 0 && (c.n == 0 && (c.ps.length : Int) == 0))) = noB c := by
    unfold noB
    congr 3
    cases c.ps with
    | nil => rfl
    | cons x l => simp only [List.length_cons, List.isEmpty_cons, beq_eq_false_iff_ne]; omega
  rw [hn] at H
  unfold cV
  clear hn
  generalize noB c = q at *
  generalize c.ps.length = l at *
  generalize c.k = x1 at *
  generalize c.v = x2 at *
  generalize c.n = x3 at *
  go_enter Tryz.func175, Tryz.ntmps175
  go_wp2_with (go_at_call 149; (refine (H.out _ _ (by simp)).mono ?_); rintro e w1 ⟨rfl, hb⟩; have HB1 := Lib.hid (HA.out.trans (hb.mono HA.out.size)); clear hb)
  go_ret
  exact ⟨rfl, HB1.out⟩

/- inRange, of the forms without lists. -/
set_option maxHeartbeats 1000000 in
theorem rngAtl_any (v n : Int) (w : World) :
    Calls Tryz.prog 246 #[.agg #[.int .i64 v, .int .i64 n]] w fun e w' => e = .returned (.bool (rngF (.atl v n))) ∧ Below w.heap.size w w' := by
  have HA := Lib.hid ((Below.refl w.heap.size w).alloc (Nat.le_refl _) (.cells #[.int .i64 v, .int .i64 n] 173))
  have H1 := Lib.hid (fun W => within1L_any 1 3 v 1 W)
  have H2 := Lib.hid (fun W => within1L_any 0 10000 n 1 W)
  have h : ∀ a b n : Int, decide (a ≤ n ∧ n ≤ b) = inI a b n := fun a b n => by unfold inI; simp
  rw [rngF, h, h]
  clear h
  generalize inI 1 3 v = q1 at *
  generalize inI 0 10000 n = q2 at *
  cases q1 with
  | false =>
    go_enter Tryz.func246, Tryz.ntmps246
    go_wp2_with (go_at_call 51; (with_reducible refine (H1.out _ _ (by simp)).mono ?_); rintro e w1 ⟨rfl, hb⟩; have HB1 := Lib.hid (HA.out.trans (hb.mono HA.out.size)); clear hb)
    go_ret
    exact ⟨rfl, HB1.out⟩
  | true =>
    go_enter Tryz.func246, Tryz.ntmps246
    go_wp2_with fail
    go_at_call 51
    (with_reducible refine (H1.out _ _ (by simp)).mono ?_)
    rintro e w1 ⟨rfl, hb⟩
    have HB1 := Lib.hid (HA.out.trans (hb.mono HA.out.size))
    have c1 : w1.cell? ⟨w.heap.size, 1, none⟩ = some (.int .i64 n) := keepc hb (by simp [go_sem])
    clear hb
    go_wp2_with fail
    go_at_call 51
    (with_reducible refine (H2.out _ _ (by simp)).mono ?_)
    rintro e w2 ⟨rfl, hb⟩
    have HB2 := Lib.hid (HB1.out.trans (hb.mono HB1.out.size))
    clear hb
    go_wp2_with fail
    go_ret
    exact ⟨by cases q2 <;> rfl, HB2.out⟩
theorem rngCrit_any (b : Int) (w : World) :
    Calls Tryz.prog 244 #[.agg #[.int .i64 b]] w fun e w' => e = .returned (.bool (rngF (.crit b))) ∧ Below w.heap.size w w' := by
  have HA := Lib.hid ((Below.refl w.heap.size w).alloc (Nat.le_refl _) (.cells #[.int .i64 b] 167))
  have H1 := Lib.hid (fun W => within1L_any 1 5 b 1 W)
  have h : decide (1 ≤ b ∧ b ≤ 5) = inI 1 5 b := by unfold inI; simp
  rw [rngF, h]
  clear h
  generalize inI 1 5 b = q1 at *
  go_enter Tryz.func244, Tryz.ntmps244
  go_wp2_with (go_at_call 51; (with_reducible refine (H1.out _ _ (by simp)).mono ?_); rintro e w1 ⟨rfl, hb⟩; have HB1 := Lib.hid (HA.out.trans (hb.mono HA.out.size)); clear hb)
  go_ret
  exact ⟨rfl, HB1.out⟩
theorem rngMis_any (w : World) :
    Calls Tryz.prog 251 #[.agg #[]] w fun e w' => e = .returned (.bool (rngF .mis)) ∧ Below w.heap.size w w' := by
  have HA := Lib.hid ((Below.refl w.heap.size w).alloc (Nat.le_refl _) (.cells #[] 213))
  have HB := Lib.hid (Below.refl w.heap.size w)
  rw [rngF]
  go_enter Tryz.func251, Tryz.ntmps251
  go_wp2_with fail
  go_ret
  exact ⟨rfl, by first | exact HA.out | exact HB.out⟩
end Go.Proofs.YtabdgnigmlpeaaaGreatDoor
