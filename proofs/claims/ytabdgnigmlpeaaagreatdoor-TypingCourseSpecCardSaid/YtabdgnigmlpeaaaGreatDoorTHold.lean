/- holds. -/
import Derived.Test.YtabdgnigmlpeaaaGreatDoorTRead
import Derived.Test.YtabdgnigmlpeaaaGreatDoorTAssert
import Derived.Deep.RegionHeld3
namespace Go.Proofs.YtabdgnigmlpeaaaGreatDoor
open Go.RowKit

def envV (x : En) : Value := .agg #[.int .i64 x.d, .int .i64 x.f, .int .i64 x.s]
/-- An environment in a block. -/
structure EnvAt (w : World) (b : Nat) (x : En) : Prop where
  c0 : w.cell? ⟨b, 0, none⟩ = some (.int .i64 x.d)
  c1 : w.cell? ⟨b, 1, none⟩ = some (.int .i64 x.f)
  c2 : w.cell? ⟨b, 2, none⟩ = some (.int .i64 x.s)
theorem EnvAt.bel {w w' : World} {b : Nat} {x : En} (h : EnvAt w b x) (hb : Below w.heap.size w w') : EnvAt w' b x := ⟨keepc hb h.c0, keepc hb h.c1, keepc hb h.c2⟩
theorem EnvAt.new (w : World) (x : En) : EnvAt (w.alloc (.cells #[.int .i64 x.d, .int .i64 x.f, .int .i64 x.s] 42)) w.heap.size x := ⟨by simp [go_sem], by simp [go_sem], by simp [go_sem]⟩

set_option maxHeartbeats 2000000 in
theorem value_any (v : Int) (hv : 1 ≤ v ∧ v ≤ 3) (x : En) (w : World) :
    Calls Tryz.prog 117 #[.int .i64 v, envV x] w fun e w' => e = .returned (.int .i64 (valE v x)) ∧ Below w.heap.size w w' := by
  have hA := (Below.refl w.heap.size w).alloc (Nat.le_refl _) (.cells #[.int .i64 x.d, .int .i64 x.f, .int .i64 x.s] 42)
  have HA := Lib.hid (hA.alloc hA.size (.cells #[.int .i64 0, .int .i64 x.d, .int .i64 x.f, .int .i64 x.s] 219))
  clear hA
  obtain ⟨d, f, s⟩ := x
  unfold envV
  simp only at *
  have h3 : v = 1 ∨ v = 2 ∨ v = 3 := by omega
  rcases h3 with rfl | rfl | rfl
  all_goals
    go_enter Tryz.func117, Tryz.ntmps117
    go_wp2_with fail
    go_ret
    exact ⟨rfl, HA.out⟩

theorem held5 {W w' : World} {A B C D E : Prop} (h : A ∧ B ∧ C ∧ D ∧ E ∧ Hid (Below W.heap.size W w')) : Below W.heap.size W w' := h.2.2.2.2.2.out
set_option maxHeartbeats 4000000 in
set_option maxRecDepth 100000 in
theorem hold_atl (v n : Int) (hv : 1 ≤ v ∧ v ≤ 3) (x : En) (W : World) :
    Calls Tryz.prog 54 #[.iface 173 (.agg #[.int .i64 v, .int .i64 n]), envV x] W fun e w' => e = .returned (.bool (decide (n ≤ valE v x))) ∧ Below W.heap.size W w' := by
  have hA := (Below.refl W.heap.size W).alloc (Nat.le_refl _) (.cells #[.int .i64 x.d, .int .i64 x.f, .int .i64 x.s] 42)
  have HA := Lib.hid (hA.alloc hA.size (.cells #[.int .i64 v, .int .i64 n] 173))
  have HX : Hid (∀ w', Below ((W.alloc (.cells #[.int .i64 x.d, .int .i64 x.f, .int .i64 x.s] 42)).alloc (.cells #[.int .i64 v, .int .i64 n] 173)).heap.size ((W.alloc (.cells #[.int .i64 x.d, .int .i64 x.f, .int .i64 x.s] 42)).alloc (.cells #[.int .i64 v, .int .i64 n] 173)) w' →
      w'.cell? ⟨W.heap.size, 0, none⟩ = some (.int .i64 x.d) ∧ w'.cell? ⟨W.heap.size, 1, none⟩ = some (.int .i64 x.f) ∧ w'.cell? ⟨W.heap.size, 2, none⟩ = some (.int .i64 x.s) ∧ w'.cell? ⟨W.heap.size + 1, 0, none⟩ = some (.int .i64 v) ∧ w'.cell? ⟨W.heap.size + 1, 1, none⟩ = some (.int .i64 n) ∧ Hid (Below ((W.alloc (.cells #[.int .i64 x.d, .int .i64 x.f, .int .i64 x.s] 42)).alloc (.cells #[.int .i64 v, .int .i64 n] 173)).heap.size ((W.alloc (.cells #[.int .i64 x.d, .int .i64 x.f, .int .i64 x.s] 42)).alloc (.cells #[.int .i64 v, .int .i64 n] 173)) w')) := Lib.hid fun w' hb =>
    ⟨keepc hb (by simp [go_sem]), keepc hb (by simp [go_sem]), keepc hb (by simp [go_sem]), keepc hb (by simp [go_sem]), keepc hb (by simp [go_sem]), Lib.hid hb⟩
  have HV : Hid (∀ W2 w1 : World, Below W2.heap.size W2 w1 → Calls Tryz.prog 117 #[.int .i64 v, envV x] w1 fun e w' => e = .returned (.int .i64 (valE v x)) ∧ Hid (Below W2.heap.size W2 w')) := Lib.hid fun W2 w1 hb => (value_any v hv x w1).mono fun e w' hr => ⟨hr.1, Lib.hid (hb.trans (hr.2.mono hb.size))⟩
  clear hv hA
  unfold envV at *
  generalize valE v x = q at *
  obtain ⟨d, f, s⟩ := x
  simp only at *
  have t1 := ta_atLeast_atLeast
  go_enter Tryz.func54, Tryz.ntmps54
  go_wp2_with fail
  generalize (W.alloc (.cells #[.int .i64 d, .int .i64 f, .int .i64 s] 42)).alloc (.cells #[.int .i64 v, .int .i64 n] 173) = W2 at *
  obtain ⟨y0, y1, y2, y3, y4, -⟩ := HX.out W2 (Below.refl _ _)
  go_region_held3 (fun w' => w'.cell? ⟨W.heap.size, 0, none⟩ = some (.int .i64 d) ∧ w'.cell? ⟨W.heap.size, 1, none⟩ = some (.int .i64 f) ∧ w'.cell? ⟨W.heap.size, 2, none⟩ = some (.int .i64 s) ∧ w'.cell? ⟨W.heap.size + 1, 0, none⟩ = some (.int .i64 v) ∧ w'.cell? ⟨W.heap.size + 1, 1, none⟩ = some (.int .i64 n) ∧ Hid (Below W2.heap.size W2 w'))
    (first
      | with_reducible exact HX.out _ (Below.refl _ _).drew
      | with_reducible exact HX.out _ (Below.refl _ _)
      | with_reducible exact HX.out _ hb1.out
      | assumption | go_keep)
    ((go_at_call 117; with_reducible refine (HV.out W2 _ (held5 (W := W2) (by assumption))).mono ?_; rintro e w' ⟨rfl, hb1⟩))
  all_goals
    go_wp2_with fail
    go_ret
    exact ⟨rfl, HA.out.trans (hb1.out.mono HA.out.size)⟩
end Go.Proofs.YtabdgnigmlpeaaaGreatDoor
