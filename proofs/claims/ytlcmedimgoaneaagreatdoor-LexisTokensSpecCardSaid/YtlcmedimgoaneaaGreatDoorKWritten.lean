/- The program's written. -/
import Derived.Test.YtlcmedimgoaneaaGreatDoorKQuot
namespace Go.Proofs.YtlcmedimgoaneaaGreatDoor
open Go.RowKit

/-- Whether a token that is not the end is valid, and its text. -/
def okT (k : Int) (t : Bs) : Bool := if k = 1 then word t else if k = 2 then int t else if k = 3 then (timeV t).isSome else if k = 4 then okQ t else if k = 5 then signB t else false
def txT (k : Int) (t : Bs) : ByteArray := if k = 4 then quotR t else if k = 1 ∨ k = 2 ∨ k = 3 ∨ k = 5 then S t else S []
theorem heldW {wA w1 : World} {b : Nat} {v : Value} (h : wA.cell? ⟨b, 1, none⟩ = some v) (hs : b < wA.heap.size) (hb : Below wA.heap.size wA w1) : w1.cell? ⟨b, 1, none⟩ = some v ∧ Hid (Below wA.heap.size wA w1) :=
  ⟨(hb.cell (p := ⟨b, 1, none⟩) hs).trans h, Lib.hid hb⟩
theorem heldWB {p : Prop} {wA w1 : World} (h : p ∧ Hid (Below wA.heap.size wA w1)) : Below wA.heap.size wA w1 := h.2.out
set_option maxHeartbeats 1000000 in
set_option maxRecDepth 100000 in
theorem written1_any (t : Bs) (a : Int) (hb : t.length ≤ 100000) (w : World) (hG : Gl w) :
    Calls Tryz.prog 31 #[.agg #[.int .i64 1, .string (S t), .int .i64 a]] w fun e w' => e = .returned (.tuple #[.string (S t), .bool (word t)]) ∧ Below w.heap.size w w' := by
  have hA := (Below.refl w.heap.size w).alloc (Nat.le_refl _) (.cells #[.int .i64 1, .string (S t), .int .i64 a] 38)
  have HC := Lib.hid (fun w1 hb' => isWord_any t (by omega) w1 ((hG.bel' hA).bel' hb'))
  have HA := Lib.hid hA
  clear hG hA
  generalize (word t) = res at *
  go_enter Tryz.func31, Tryz.ntmps31
  go_wp2_with fail
  have c1 : (w.alloc (.cells #[.int .i64 1, .string (S t), .int .i64 a] 38)).cell? ⟨w.heap.size, 1, none⟩ = some (.string (S t)) := by simp [go_sem]
  have hlt : w.heap.size < (w.alloc (.cells #[.int .i64 1, .string (S t), .int .i64 a] 38)).heap.size := by simp
  have c1' := c1
  generalize w.alloc (.cells #[.int .i64 1, .string (S t), .int .i64 a] 38) = wA at *
  go_region_held3 (fun w' => w'.cell? ⟨w.heap.size, 1, none⟩ = some (.string (S t)) ∧ Hid (Below wA.heap.size wA w')) (first | assumption | exact heldW c1' hlt (Below.refl _ _) | exact heldW c1' hlt (Below.refl _ _).drew | exact heldW c1' hlt (heldWB (by assumption)).drew | exact heldW c1' hlt ((heldWB (by assumption)).trans (by assumption))) ((go_at_call 68; refine (HC.out _ (by first | exact (Below.refl _ _) | exact (Below.refl _ _).drew | exact heldWB (by assumption))).mono ?_; rintro e w2 ⟨rfl, hz⟩))
  all_goals (go_wp2_with fail)
  all_goals go_ret2
  all_goals first
    | exact ⟨rfl, HA.out.trans ((heldWB (by assumption)).mono HA.out.size)⟩
    | exact ⟨rfl, (HA.out.trans ((heldWB (by assumption)).mono HA.out.size)).drew⟩
    | exact ⟨rfl, HA.out.trans ((Below.drew (by assumption)).mono HA.out.size)⟩
set_option maxHeartbeats 1000000 in
set_option maxRecDepth 100000 in
theorem written2_any (t : Bs) (a : Int) (hb : t.length ≤ 100000) (w : World) (hG : Gl w) :
    Calls Tryz.prog 31 #[.agg #[.int .i64 2, .string (S t), .int .i64 a]] w fun e w' => e = .returned (.tuple #[.string (S t), .bool (int t)]) ∧ Below w.heap.size w w' := by
  have hA := (Below.refl w.heap.size w).alloc (Nat.le_refl _) (.cells #[.int .i64 2, .string (S t), .int .i64 a] 38)
  have HC := Lib.hid (fun w1 hb' => isInteger_any t (by omega) w1 ((hG.bel' hA).bel' hb'))
  have HA := Lib.hid hA
  clear hG hA
  generalize (int t) = res at *
  go_enter Tryz.func31, Tryz.ntmps31
  go_wp2_with fail
  have c1 : (w.alloc (.cells #[.int .i64 2, .string (S t), .int .i64 a] 38)).cell? ⟨w.heap.size, 1, none⟩ = some (.string (S t)) := by simp [go_sem]
  have hlt : w.heap.size < (w.alloc (.cells #[.int .i64 2, .string (S t), .int .i64 a] 38)).heap.size := by simp
  have c1' := c1
  generalize w.alloc (.cells #[.int .i64 2, .string (S t), .int .i64 a] 38) = wA at *
  go_region_held3 (fun w' => w'.cell? ⟨w.heap.size, 1, none⟩ = some (.string (S t)) ∧ Hid (Below wA.heap.size wA w')) (first | assumption | exact heldW c1' hlt (Below.refl _ _) | exact heldW c1' hlt (Below.refl _ _).drew | exact heldW c1' hlt (heldWB (by assumption)).drew | exact heldW c1' hlt ((heldWB (by assumption)).trans (by assumption))) ((go_at_call 69; refine (HC.out _ (by first | exact (Below.refl _ _) | exact (Below.refl _ _).drew | exact heldWB (by assumption))).mono ?_; rintro e w2 ⟨rfl, hz⟩))
  all_goals (go_wp2_with fail)
  all_goals go_ret2
  all_goals first
    | exact ⟨rfl, HA.out.trans ((heldWB (by assumption)).mono HA.out.size)⟩
    | exact ⟨rfl, (HA.out.trans ((heldWB (by assumption)).mono HA.out.size)).drew⟩
    | exact ⟨rfl, HA.out.trans ((Below.drew (by assumption)).mono HA.out.size)⟩
set_option maxHeartbeats 1000000 in
set_option maxRecDepth 100000 in
theorem written3_any (t : Bs) (a : Int) (hb : t.length ≤ 100000) (w : World) (hG : Gl w) :
    Calls Tryz.prog 31 #[.agg #[.int .i64 3, .string (S t), .int .i64 a]] w fun e w' => e = .returned (.tuple #[.string (S t), .bool ((timeV t).isSome)]) ∧ Below w.heap.size w w' := by
  have hA := (Below.refl w.heap.size w).alloc (Nat.le_refl _) (.cells #[.int .i64 3, .string (S t), .int .i64 a] 38)
  have HC := Lib.hid (fun w1 hb' => isTime_any t (by omega) w1 ((hG.bel' hA).bel' hb'))
  have HA := Lib.hid hA
  clear hG hA
  generalize ((timeV t).isSome) = res at *
  go_enter Tryz.func31, Tryz.ntmps31
  go_wp2_with fail
  have c1 : (w.alloc (.cells #[.int .i64 3, .string (S t), .int .i64 a] 38)).cell? ⟨w.heap.size, 1, none⟩ = some (.string (S t)) := by simp [go_sem]
  have hlt : w.heap.size < (w.alloc (.cells #[.int .i64 3, .string (S t), .int .i64 a] 38)).heap.size := by simp
  have c1' := c1
  generalize w.alloc (.cells #[.int .i64 3, .string (S t), .int .i64 a] 38) = wA at *
  go_region_held3 (fun w' => w'.cell? ⟨w.heap.size, 1, none⟩ = some (.string (S t)) ∧ Hid (Below wA.heap.size wA w')) (first | assumption | exact heldW c1' hlt (Below.refl _ _) | exact heldW c1' hlt (Below.refl _ _).drew | exact heldW c1' hlt (heldWB (by assumption)).drew | exact heldW c1' hlt ((heldWB (by assumption)).trans (by assumption))) ((go_at_call 70; refine (HC.out _ (by first | exact (Below.refl _ _) | exact (Below.refl _ _).drew | exact heldWB (by assumption))).mono ?_; rintro e w2 ⟨rfl, hz⟩))
  all_goals (go_wp2_with fail)
  all_goals go_ret2
  all_goals first
    | exact ⟨rfl, HA.out.trans ((heldWB (by assumption)).mono HA.out.size)⟩
    | exact ⟨rfl, (HA.out.trans ((heldWB (by assumption)).mono HA.out.size)).drew⟩
    | exact ⟨rfl, HA.out.trans ((Below.drew (by assumption)).mono HA.out.size)⟩
set_option maxHeartbeats 1000000 in
set_option maxRecDepth 100000 in
theorem written5_any (t : Bs) (a : Int) (hb : t.length ≤ 100000) (w : World) (hG : Gl w) :
    Calls Tryz.prog 31 #[.agg #[.int .i64 5, .string (S t), .int .i64 a]] w fun e w' => e = .returned (.tuple #[.string (S t), .bool (signB t)]) ∧ Below w.heap.size w w' := by
  have hA := (Below.refl w.heap.size w).alloc (Nat.le_refl _) (.cells #[.int .i64 5, .string (S t), .int .i64 a] 38)
  have HC := Lib.hid (fun w1 hb' => isSign_any t (by omega) w1 ((hG.bel' hA).bel' hb'))
  have HA := Lib.hid hA
  clear hG hA
  generalize (signB t) = res at *
  go_enter Tryz.func31, Tryz.ntmps31
  go_wp2_with fail
  have c1 : (w.alloc (.cells #[.int .i64 5, .string (S t), .int .i64 a] 38)).cell? ⟨w.heap.size, 1, none⟩ = some (.string (S t)) := by simp [go_sem]
  have hlt : w.heap.size < (w.alloc (.cells #[.int .i64 5, .string (S t), .int .i64 a] 38)).heap.size := by simp
  have c1' := c1
  generalize w.alloc (.cells #[.int .i64 5, .string (S t), .int .i64 a] 38) = wA at *
  go_region_held3 (fun w' => w'.cell? ⟨w.heap.size, 1, none⟩ = some (.string (S t)) ∧ Hid (Below wA.heap.size wA w')) (first | assumption | exact heldW c1' hlt (Below.refl _ _) | exact heldW c1' hlt (Below.refl _ _).drew | exact heldW c1' hlt (heldWB (by assumption)).drew | exact heldW c1' hlt ((heldWB (by assumption)).trans (by assumption))) ((go_at_call 72; refine (HC.out _ (by first | exact (Below.refl _ _) | exact (Below.refl _ _).drew | exact heldWB (by assumption))).mono ?_; rintro e w2 ⟨rfl, hz⟩))
  all_goals (go_wp2_with fail)
  all_goals go_ret2
  all_goals first
    | exact ⟨rfl, HA.out.trans ((heldWB (by assumption)).mono HA.out.size)⟩
    | exact ⟨rfl, (HA.out.trans ((heldWB (by assumption)).mono HA.out.size)).drew⟩
    | exact ⟨rfl, HA.out.trans ((Below.drew (by assumption)).mono HA.out.size)⟩
set_option maxHeartbeats 1000000 in
set_option maxRecDepth 100000 in
theorem written4_any (t : Bs) (a : Int) (hb : t.length ≤ 100000) (w : World) (hG : Gl w) :
    Calls Tryz.prog 31 #[.agg #[.int .i64 4, .string (S t), .int .i64 a]] w fun e w' => e = .returned (.tuple #[.string (quotR t), .bool (okQ t)]) ∧ Below w.heap.size w w' := by
  have hA := (Below.refl w.heap.size w).alloc (Nat.le_refl _) (.cells #[.int .i64 4, .string (S t), .int .i64 a] 38)
  have HC := Lib.hid (quoted_any t (by omega) _ (hG.bel' hA))
  have HA := Lib.hid hA
  clear hG hA
  generalize quotR t = q at *
  generalize okQ t = f at *
  go_enter Tryz.func31, Tryz.ntmps31
  go_wp2_with fail
  go_at_call 71
  refine HC.out.mono ?_
  rintro e w2 ⟨rfl, hb'⟩
  have HB := Lib.hid (HA.out.trans (hb'.mono HA.out.size)); clear hb'
  go_wp2_with fail
  go_ret2
  exact ⟨rfl, HB.out⟩
set_option maxRecDepth 100000 in
theorem written0_any (k : Int) (h1 : k ≠ 1) (h2 : k ≠ 2) (h3 : k ≠ 3) (h4 : k ≠ 4) (h5 : k ≠ 5) (t : Bs) (a : Int) (w : World) :
    Calls Tryz.prog 31 #[.agg #[.int .i64 k, .string (S t), .int .i64 a]] w fun e w' => e = .returned (.tuple #[.string (S []), .bool false]) ∧ Below w.heap.size w w' := by
  have e1 : (k == 1) = false := beq_eq_false_iff_ne.2 h1
  have e2 : (k == 2) = false := beq_eq_false_iff_ne.2 h2
  have e3 : (k == 3) = false := beq_eq_false_iff_ne.2 h3
  have e4 : (k == 4) = false := beq_eq_false_iff_ne.2 h4
  have e5 : (k == 5) = false := beq_eq_false_iff_ne.2 h5
  have HA := Lib.hid ((Below.refl w.heap.size w).alloc (Nat.le_refl _) (.cells #[.int .i64 k, .string (S t), .int .i64 a] 38))
  clear h1 h2 h3 h4 h5
  go_enter Tryz.func31, Tryz.ntmps31
  go_wp2_with fail
  go_ret2
  exact ⟨rfl, HA.out⟩
theorem written_any (k : Int) (t : Bs) (a : Int) (hb : t.length ≤ 100000) (w : World) (hG : Gl w) :
    Calls Tryz.prog 31 #[.agg #[.int .i64 k, .string (S t), .int .i64 a]] w fun e w' => e = .returned (.tuple #[.string (txT k t), .bool (okT k t)]) ∧ Below w.heap.size w w' := by
  by_cases h1 : k = 1
  · subst h1; exact written1_any t a hb w hG
  by_cases h2 : k = 2
  · subst h2; exact written2_any t a hb w hG
  by_cases h3 : k = 3
  · subst h3; exact written3_any t a hb w hG
  by_cases h4 : k = 4
  · subst h4; exact written4_any t a hb w hG
  by_cases h5 : k = 5
  · subst h5; exact written5_any t a hb w hG
  have e1 : txT k t = S [] := by unfold txT; rw [if_neg h4, if_neg (by simp [h1, h2, h3, h5])]
  have e2 : okT k t = false := by unfold okT; rw [if_neg h1, if_neg h2, if_neg h3, if_neg h4, if_neg h5]
  rw [e1, e2]
  exact written0_any k h1 h2 h3 h4 h5 t a w
end Go.Proofs.YtlcmedimgoaneaaGreatDoor
