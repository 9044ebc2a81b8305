/- Comparisons. -/
import Derived.Test.YtdhdjfkknfbmhaaGreatDoorSCd
namespace Go.Proofs.YtdhdjfkknfbmhaaGreatDoor
open Go.RowKit

theorem cV_leaf (k v n : Int) : cV (.mk k v n []) none 0 = .agg #[.int .i64 k, .int .i64 v, .int .i64 n, .slice none 0 0] := rfl
set_option maxHeartbeats 2000000 in
set_option maxRecDepth 100000 in
theorem from_any (v n : Int) (b : Nat) (w : World) (h : w.cell? ⟨b, 0, none⟩ = some (.int .i64 v)) (hb : b < w.heap.size) :
    Calls Tryz.prog 168 #[.int .i64 n, .pointer (some ⟨b, 0, none⟩)] w fun e w' => e = .returned (.agg #[.int .i64 1, .int .i64 v, .int .i64 n, .slice none 0 0]) ∧ Below w.heap.size w w' := by
  have HB := (Below.refl w.heap.size w).alloc (Nat.le_refl _) (.cells #[.int .i64 0, .int .i64 0, .int .i64 0, .slice none 0 0] 49)
  have c0 := (HB.cell (p := ⟨b, 0, none⟩) hb).trans h
  have HB := Lib.hid HB
  clear h
  go_enter Tryz.func168, Tryz.ntmps168
  go_wp2_with fail
  refine bodyPost_ret (v := .agg #[.int .i64 1, .int .i64 v, .int .i64 n, .slice none 0 0]) ?_ rfl ⟨rfl, (Below.refl w.heap.size w).alloc (Nat.le_refl _) _⟩
  simp [results, Tryz.results168, go_sem]

/-- The cell of a result, a condition, laid anew, in block b. -/
structure Z4 (w : World) (b : Nat) : Prop where
  lt : b < w.heap.size
  ex : ∃ u0 u1 u2 u3, w.cell? ⟨b, 0, none⟩ = some u0 ∧ w.cell? ⟨b, 1, none⟩ = some u1 ∧ w.cell? ⟨b, 2, none⟩ = some u2 ∧ w.cell? ⟨b, 3, none⟩ = some u3
  fz : ∀ o, w.frozen? ⟨b, o, none⟩ = false
theorem Z4.new (w : World) : Z4 (w.alloc (.cells #[.int .i64 0, .int .i64 0, .int .i64 0, .slice none 0 0] 49)) w.heap.size :=
  ⟨by simp, ⟨_, _, _, _, by simp [go_sem]; rfl, by simp [go_sem]; rfl, by simp [go_sem]; rfl, by simp [go_sem]; rfl⟩, fun o => by simp [go_sem]⟩
theorem Z4.bel {w w' : World} {b m : Nat} (h : Z4 w b) (hb : Below m w w') (hm : b < m) : Z4 w' b := by
  have hh := hb.block b hm
  have hc := fun o => World.cell?_of_block (a := ⟨b, o, none⟩) hh
  obtain ⟨u0, u1, u2, u3, h0, h1, h2, h3⟩ := h.ex
  exact ⟨Nat.lt_of_lt_of_le h.lt hb.size, ⟨u0, u1, u2, u3, (hc 0).trans h0, (hc 1).trans h1, (hc 2).trans h2, (hc 3).trans h3⟩, fun o => (World.frozen?_of_block (a := ⟨b, o, none⟩) hh).trans (h.fz o)⟩
def put4 (w : World) (b : Nat) (v0 v1 v2 v3 : Value) : World := (((w.setCell ⟨b, 0, none⟩ v0).setCell ⟨b, 1, none⟩ v1).setCell ⟨b, 2, none⟩ v2).setCell ⟨b, 3, none⟩ v3
theorem Z4.put {w : World} {b : Nat} (h : Z4 w b) (v0 v1 v2 v3 : Value) :
    (put4 w b v0 v1 v2 v3).cell? ⟨b, 0, none⟩ = some v0 ∧ (put4 w b v0 v1 v2 v3).cell? ⟨b, 1, none⟩ = some v1 ∧ (put4 w b v0 v1 v2 v3).cell? ⟨b, 2, none⟩ = some v2 ∧ (put4 w b v0 v1 v2 v3).cell? ⟨b, 3, none⟩ = some v3 := by
  obtain ⟨d0, d1, d2, d3, h0, h1, h3, h4⟩ := h.ex
  have n01 : (⟨b, 0, none⟩ : Addr) ≠ ⟨b, 1, none⟩ := by simp
  have n02 : (⟨b, 0, none⟩ : Addr) ≠ ⟨b, 2, none⟩ := by simp
  have n03 : (⟨b, 0, none⟩ : Addr) ≠ ⟨b, 3, none⟩ := by simp
  have n12 : (⟨b, 1, none⟩ : Addr) ≠ ⟨b, 2, none⟩ := by simp
  have n13 : (⟨b, 1, none⟩ : Addr) ≠ ⟨b, 3, none⟩ := by simp
  have n23 : (⟨b, 2, none⟩ : Addr) ≠ ⟨b, 3, none⟩ := by simp
  unfold put4
  refine ⟨?_, ?_, ?_, ?_⟩
  · rw [World.cell?_setCell_other _ _ _ _ n03.symm, World.cell?_setCell_other _ _ _ _ n02.symm, World.cell?_setCell_other _ _ _ _ n01.symm]
    exact World.cell?_setCell_same _ _ _ h0
  · rw [World.cell?_setCell_other _ _ _ _ n13.symm, World.cell?_setCell_other _ _ _ _ n12.symm]
    exact World.cell?_setCell_same _ _ _ ((World.cell?_setCell_other _ _ _ _ n01).trans h1)
  · rw [World.cell?_setCell_other _ _ _ _ n23.symm]
    exact World.cell?_setCell_same _ _ _ ((World.cell?_setCell_other _ _ _ _ n12).trans ((World.cell?_setCell_other _ _ _ _ n02).trans h3))
  · exact World.cell?_setCell_same _ _ _ ((World.cell?_setCell_other _ _ _ _ n23).trans ((World.cell?_setCell_other _ _ _ _ n13).trans ((World.cell?_setCell_other _ _ _ _ n03).trans h4)))
theorem put4_below {w w1 : World} {b : Nat} (h : Below w.heap.size w w1) (hb : w.heap.size ≤ b) (v0 v1 v2 v3 : Value) : Below w.heap.size w (put4 w1 b v0 v1 v2 v3) :=
  (((h.setCell (p := ⟨b, 0, none⟩) hb _).setCell (p := ⟨b, 1, none⟩) hb _).setCell (p := ⟨b, 2, none⟩) hb _).setCell (p := ⟨b, 3, none⟩) hb _

/-- Two conditions as the parts of another. -/
theorem CdIn.two {w : World} {Q : Nat → Prop} {c d : Cd} {p q : Option Addr} {cap dap : Nat} (h : CdIn w Q c p cap) (g : CdIn w Q d q dap) (k v n : Int) :
    CdIn (w.alloc (.cells #[.int .i64 c.k, .int .i64 c.v, .int .i64 c.n, .slice p c.ps.length cap, .int .i64 d.k, .int .i64 d.v, .int .i64 d.n, .slice q d.ps.length dap] 49)) (fun b => Q b ∨ w.heap.size ≤ b) (.mk k v n [c, d]) (some ⟨w.heap.size, 0, none⟩) 2 := by
  have hB := (Below.refl w.heap.size w).alloc (Nat.le_refl _) (.cells #[.int .i64 c.k, .int .i64 c.v, .int .i64 c.n, .slice p c.ps.length cap, .int .i64 d.k, .int .i64 d.v, .int .i64 d.n, .slice q d.ps.length dap] 49)
  refine .mk k v n [c, d] _ 2 w.heap.size 0 (fun i => if i = 0 then p else q) (fun i => if i = 0 then cap else dap) (by simp) (by simp) (by simp) (fun h => by cases h) (fun _ => ⟨rfl, Or.inr (Nat.le_refl _), by simp⟩) (fun i hi => ?_) (fun i hi => ?_)
  · match i, hi with
    | 0, _ => refine ⟨?_, ?_, ?_, ?_⟩ <;> simp [go_sem]
    | 1, _ => refine ⟨?_, ?_, ?_, ?_⟩ <;> simp [go_sem]
  · match i, hi with
    | 0, _ => exact (h.bel hB).mono fun b hb => Or.inl hb
    | 1, _ => exact (g.bel hB).mono fun b hb => Or.inl hb

set_option maxHeartbeats 4000000 in
set_option maxRecDepth 100000 in
theorem compared_any (v c : Nat) (n : Int) (hn : 0 ≤ n) (hn2 : n ≤ 1125899906842624) (w : World) :
    Calls Tryz.prog 137 #[.int .i64 v, .int .i64 c, .int .i64 n] w fun e w' => ∃ q d, e = .returned (cV (comparedS v c n) q d) ∧ CdIn w' (fun b => w.heap.size ≤ b) (comparedS v c n) q d ∧ Below w.heap.size w w' := by
  have hmf : ∀ (fn : Fn) (first cap : Array Value) (w : World), (Instr.makeFunc fn first cap).run Tryz.prog w = .ok (.func fn first cap) w := fun _ _ _ _ => rfl
  have HW : Hid (∀ w1, Below w.heap.size w w1 → ∀ m : Int, Below (w.heap.size + 2) ((w.alloc (.cells #[.int .i64 v] 3)).alloc (.cells #[.int .i64 0, .int .i64 0, .int .i64 0, .slice none 0 0] 49)) w1 → Calls Tryz.prog 168 #[.int .i64 m, .pointer (some ⟨w.heap.size, 0, none⟩)] w1 fun e w' => e = .returned (.agg #[.int .i64 1, .int .i64 v, .int .i64 m, .slice none 0 0]) ∧ Below w1.heap.size w1 w') := Lib.hid fun w1 hb m h2 => by
    refine from_any v m w.heap.size w1 ?_ ?_
    · rw [h2.cell (p := ⟨w.heap.size, 0, none⟩) (by show w.heap.size < _; omega)]
      simp [go_sem]
    · have := h2.size
      simp only [World.size_alloc] at this
      omega
  by_cases h1 : c = 1
  · have i1 : ((c : Int) == 1) = true := by rw [h1]; rfl
    have hS : comparedS v c n = .atLeast v (n + 1) := by unfold comparedS; rw [if_pos h1]
    rw [hS]
    clear h1 hS
    go_enter Tryz.func137, Tryz.ntmps137
    go_wp2_with fail
    have hB0 := ((Below.refl w.heap.size w).alloc (Nat.le_refl _) (.cells #[.int .i64 v] 3)).alloc (by simp) (.cells #[.int .i64 0, .int .i64 0, .int .i64 0, .slice none 0 0] 49)
    have HZ0 := Lib.hid (Z4.new (w.alloc (.cells #[.int .i64 v] 3)))
    rw [World.size_alloc] at HZ0
    have HB0 := Lib.hid hB0
    clear hB0
    go_at_call 168
    refine (HW.out _ HB0.out _ (Below.refl _ _)).mono ?_
    rintro e w1 ⟨rfl, hb⟩
    have HZ := Lib.hid (HZ0.out.bel hb (by simp))
    have HB := Lib.hid (HB0.out.trans (hb.mono HB0.out.size))
    clear hb HZ0 HB0 HW
    obtain ⟨u0, u1, u2, u3, z0, z1, z2, z3⟩ := HZ.out.ex
    have f0 := HZ.out.fz 0
    have f1 := HZ.out.fz 1
    have f2 := HZ.out.fz 2
    have f3 := HZ.out.fz 3
    go_wp2_with fail
    have HC := HZ.out.put (.int .i64 1) (.int .i64 v) (.int .i64 (n + 1)) (.slice none 0 0)
    unfold put4 at HC
    obtain ⟨c0, c1, c2, c3⟩ := HC
    refine bodyPost_ret (v := .agg #[.int .i64 1, .int .i64 v, .int .i64 (n + 1), .slice none 0 0]) ?_ rfl ⟨none, 0, rfl, CdIn.leaf, put4_below HB.out (Nat.le_succ _) _ _ _ _⟩
    simp [results, Tryz.results137, go_sem, c0, c1, c2, c3]
  have i1 : ((c : Int) == 1) = false := beq_eq_false_iff_ne.2 (by omega)
  by_cases h2 : c = 2
  · have i2 : ((c : Int) == 2) = true := by rw [h2]; rfl
    have hS : comparedS v c n = negatedS (.atLeast v (n + 1)) := by unfold comparedS; rw [if_neg h1, if_pos h2]
    rw [hS]
    clear h1 h2 hS
    go_enter Tryz.func137, Tryz.ntmps137
    go_wp2_with fail
    have hB0 := ((Below.refl w.heap.size w).alloc (Nat.le_refl _) (.cells #[.int .i64 v] 3)).alloc (by simp) (.cells #[.int .i64 0, .int .i64 0, .int .i64 0, .slice none 0 0] 49)
    have HZ0 := Lib.hid (Z4.new (w.alloc (.cells #[.int .i64 v] 3)))
    rw [World.size_alloc] at HZ0
    have HB0 := Lib.hid hB0
    clear hB0
    go_at_call 168
    refine (HW.out _ HB0.out _ (Below.refl _ _)).mono ?_
    rintro e w1 ⟨rfl, hb⟩
    have HZ := Lib.hid (HZ0.out.bel hb (by simp))
    have HB := Lib.hid (HB0.out.trans (hb.mono HB0.out.size))
    have HSZ : Hid (w.heap.size + 2 ≤ w1.heap.size) := Lib.hid (by have := hb.size; simp only [World.size_alloc] at this; omega)
    clear hb HZ0 HB0 HW
    have HNG : Hid (Calls Tryz.prog 136 #[.agg #[.int .i64 1, .int .i64 v, .int .i64 (n + 1), .slice none 0 0]] w1 fun e w' => ∃ q d, e = .returned (.agg #[.int .i64 4, .int .i64 0, .int .i64 0, .slice q 1 d]) ∧ CdIn w' (fun b => False ∨ w1.heap.size ≤ b) (negatedS (.atLeast v (n + 1))) q d ∧ Below w1.heap.size w1 w') := Lib.hid (negated_any (.atLeast v (n + 1)) none 0 (fun _ => False) w1 CdIn.leaf)
    go_wp2_with fail
    go_at_call 136
    refine HNG.out.mono ?_
    rintro e w2 ⟨q, d, rfl, hc, hb⟩
    have HZ := Lib.hid (HZ.out.bel hb HZ.out.lt)
    have HCD := Lib.hid (hc.mono (Q' := fun b => w.heap.size + 1 < b) fun b hb => hb.elim False.elim fun h => by have := HZ.out.lt; have := HSZ.out; omega)
    have HB := Lib.hid (HB.out.trans (hb.mono HB.out.size))
    clear hb hc HNG
    obtain ⟨u0, u1, u2, u3, z0, z1, z2, z3⟩ := HZ.out.ex
    have f0 := HZ.out.fz 0
    have f1 := HZ.out.fz 1
    have f2 := HZ.out.fz 2
    have f3 := HZ.out.fz 3
    go_wp2_with fail
    have HC := HZ.out.put (.int .i64 4) (.int .i64 0) (.int .i64 0) (.slice q 1 d)
    unfold put4 at HC
    obtain ⟨c0, c1, c2, c3⟩ := HC
    refine bodyPost_ret (v := .agg #[.int .i64 4, .int .i64 0, .int .i64 0, .slice q 1 d]) ?_ rfl ⟨q, d, rfl, (HCD.out.keep (by simp) fun b hb _ => ?_).mono fun b hb => by omega, put4_below HB.out (Nat.le_succ _) _ _ _ _⟩
    · simp [results, Tryz.results137, go_sem, c0, c1, c2, c3]
    · have hne : b ≠ w.heap.size + 1 := by omega
      rw [heap_setCell_other _ _ _ _ hne, heap_setCell_other _ _ _ _ hne, heap_setCell_other _ _ _ _ hne, heap_setCell_other _ _ _ _ hne]
  have i2 : ((c : Int) == 2) = false := beq_eq_false_iff_ne.2 (by omega)
  by_cases h3 : c = 3
  · have i3 : ((c : Int) == 3) = true := by rw [h3]; rfl
    have hS : comparedS v c n = negatedS (.atLeast v n) := by unfold comparedS; rw [if_neg h1, if_neg h2, if_pos h3]
    rw [hS]
    clear h1 h2 h3 hS
    go_enter Tryz.func137, Tryz.ntmps137
    go_wp2_with fail
    have hB0 := ((Below.refl w.heap.size w).alloc (Nat.le_refl _) (.cells #[.int .i64 v] 3)).alloc (by simp) (.cells #[.int .i64 0, .int .i64 0, .int .i64 0, .slice none 0 0] 49)
    have HZ0 := Lib.hid (Z4.new (w.alloc (.cells #[.int .i64 v] 3)))
    rw [World.size_alloc] at HZ0
    have HB0 := Lib.hid hB0
    clear hB0
    go_at_call 168
    refine (HW.out _ HB0.out _ (Below.refl _ _)).mono ?_
    rintro e w1 ⟨rfl, hb⟩
    have HZ := Lib.hid (HZ0.out.bel hb (by simp))
    have HB := Lib.hid (HB0.out.trans (hb.mono HB0.out.size))
    have HSZ : Hid (w.heap.size + 2 ≤ w1.heap.size) := Lib.hid (by have := hb.size; simp only [World.size_alloc] at this; omega)
    clear hb HZ0 HB0 HW
    have HNG : Hid (Calls Tryz.prog 136 #[.agg #[.int .i64 1, .int .i64 v, .int .i64 (n), .slice none 0 0]] w1 fun e w' => ∃ q d, e = .returned (.agg #[.int .i64 4, .int .i64 0, .int .i64 0, .slice q 1 d]) ∧ CdIn w' (fun b => False ∨ w1.heap.size ≤ b) (negatedS (.atLeast v (n))) q d ∧ Below w1.heap.size w1 w') := Lib.hid (negated_any (.atLeast v (n)) none 0 (fun _ => False) w1 CdIn.leaf)
    go_wp2_with fail
    go_at_call 136
    refine HNG.out.mono ?_
    rintro e w2 ⟨q, d, rfl, hc, hb⟩
    have HZ := Lib.hid (HZ.out.bel hb HZ.out.lt)
    have HCD := Lib.hid (hc.mono (Q' := fun b => w.heap.size + 1 < b) fun b hb => hb.elim False.elim fun h => by have := HZ.out.lt; have := HSZ.out; omega)
    have HB := Lib.hid (HB.out.trans (hb.mono HB.out.size))
    clear hb hc HNG
    obtain ⟨u0, u1, u2, u3, z0, z1, z2, z3⟩ := HZ.out.ex
    have f0 := HZ.out.fz 0
    have f1 := HZ.out.fz 1
    have f2 := HZ.out.fz 2
    have f3 := HZ.out.fz 3
    go_wp2_with fail
    have HC := HZ.out.put (.int .i64 4) (.int .i64 0) (.int .i64 0) (.slice q 1 d)
    unfold put4 at HC
    obtain ⟨c0, c1, c2, c3⟩ := HC
    refine bodyPost_ret (v := .agg #[.int .i64 4, .int .i64 0, .int .i64 0, .slice q 1 d]) ?_ rfl ⟨q, d, rfl, (HCD.out.keep (by simp) fun b hb _ => ?_).mono fun b hb => by omega, put4_below HB.out (Nat.le_succ _) _ _ _ _⟩
    · simp [results, Tryz.results137, go_sem, c0, c1, c2, c3]
    · have hne : b ≠ w.heap.size + 1 := by omega
      rw [heap_setCell_other _ _ _ _ hne, heap_setCell_other _ _ _ _ hne, heap_setCell_other _ _ _ _ hne, heap_setCell_other _ _ _ _ hne]
  have i3 : ((c : Int) == 3) = false := beq_eq_false_iff_ne.2 (by omega)
  by_cases h4 : c = 4
  · have i4 : ((c : Int) == 4) = true := by rw [h4]; rfl
    have hS : comparedS v c n = .mk 2 0 0 [.atLeast v n, negatedS (.atLeast v (n + 1))] := by unfold comparedS; rw [if_neg h1, if_neg h2, if_neg h3, if_pos h4]
    rw [hS]
    clear h1 h2 h3 h4 hS
    go_enter Tryz.func137, Tryz.ntmps137
    go_wp2_with fail
    have hB0 := ((Below.refl w.heap.size w).alloc (Nat.le_refl _) (.cells #[.int .i64 v] 3)).alloc (by simp) (.cells #[.int .i64 0, .int .i64 0, .int .i64 0, .slice none 0 0] 49)
    have HZ0 := Lib.hid (Z4.new (w.alloc (.cells #[.int .i64 v] 3)))
    rw [World.size_alloc] at HZ0
    have HB0 := Lib.hid hB0
    clear hB0
    go_at_call 168
    refine (HW.out _ HB0.out _ (Below.refl _ _)).mono ?_
    rintro e w1 ⟨rfl, hb⟩
    have HZ := Lib.hid (HZ0.out.bel hb (by simp))
    have HB := Lib.hid (HB0.out.trans (hb.mono HB0.out.size))
    have HSZ : Hid (w.heap.size + 2 ≤ w1.heap.size) := Lib.hid (by have := hb.size; simp only [World.size_alloc] at this; omega)
    have HF2 := Lib.hid (HW.out _ HB.out (n + 1) (hb.mono (by simp)))
    clear hb HZ0 HB0 HW
    go_wp2_with fail
    go_at_call 168
    refine HF2.out.mono ?_
    rintro e w2 ⟨rfl, hb⟩
    have HZ := Lib.hid (HZ.out.bel hb HZ.out.lt)
    have HB := Lib.hid (HB.out.trans (hb.mono HB.out.size))
    have HSZ : Hid (w.heap.size + 2 ≤ w2.heap.size) := Lib.hid (Nat.le_trans HSZ.out hb.size)
    clear hb HF2
    have HNG : Hid (Calls Tryz.prog 136 #[.agg #[.int .i64 1, .int .i64 v, .int .i64 (n + 1), .slice none 0 0]] w2 fun e w' => ∃ q d, e = .returned (.agg #[.int .i64 4, .int .i64 0, .int .i64 0, .slice q 1 d]) ∧ CdIn w' (fun b => False ∨ w2.heap.size ≤ b) (negatedS (.atLeast v (n + 1))) q d ∧ Below w2.heap.size w2 w') := Lib.hid (negated_any (.atLeast v (n + 1)) none 0 (fun _ => False) w2 CdIn.leaf)
    go_wp2_with fail
    go_at_call 136
    refine HNG.out.mono ?_
    rintro e w3 ⟨q, d, rfl, hc, hb⟩
    have HZ := Lib.hid (HZ.out.bel hb HZ.out.lt)
    have HB := Lib.hid (HB.out.trans (hb.mono HB.out.size))
    have HCD := Lib.hid (CdIn.two (CdIn.leaf (w := w3) (Q := fun b => w.heap.size + 1 < b) (k := 1) (v := v) (n := n)) (hc.mono (Q' := fun b => w.heap.size + 1 < b) fun b hb => hb.elim False.elim fun h => by have := HSZ.out; omega) 2 0 0)
    have HSZ : Hid (w.heap.size + 2 ≤ w3.heap.size) := Lib.hid (Nat.le_trans HSZ.out hb.size)
    clear hb hc HNG
    have HA := Lib.hid ((Below.refl w3.heap.size w3).alloc (Nat.le_refl _) (.cells #[.int .i64 1, .int .i64 v, .int .i64 n, .slice none 0 0, .int .i64 4, .int .i64 0, .int .i64 0, .slice q 1 d] 49))
    have HZ := Lib.hid (HZ.out.bel HA.out HZ.out.lt)
    have HB := Lib.hid (HB.out.trans (HA.out.mono HB.out.size))
    obtain ⟨u0, u1, u2, u3, z0, z1, z2, z3⟩ := HZ.out.ex
    have f0 := HZ.out.fz 0
    have f1 := HZ.out.fz 1
    have f2 := HZ.out.fz 2
    have f3 := HZ.out.fz 3
    go_wp2_with fail
    have HC := HZ.out.put (.int .i64 2) (.int .i64 0) (.int .i64 0) (.slice (some ⟨w3.heap.size, 0, none⟩) 2 2)
    unfold put4 at HC
    obtain ⟨c0, c1, c2, c3⟩ := HC
    have hsz := HSZ.out
    refine bodyPost_ret (v := .agg #[.int .i64 2, .int .i64 0, .int .i64 0, .slice (some ⟨w3.heap.size, 0, none⟩) 2 2]) ?_ rfl ⟨some ⟨w3.heap.size, 0, none⟩, 2, rfl, (HCD.out.keep (by simp) fun b hb _ => ?_).mono fun b hb => by omega, put4_below HB.out (Nat.le_succ _) _ _ _ _⟩
    · simp [results, Tryz.results137, go_sem, c0, c1, c2, c3]
    · have hne : b ≠ w.heap.size + 1 := by omega
      rw [heap_setCell_other _ _ _ _ hne, heap_setCell_other _ _ _ _ hne, heap_setCell_other _ _ _ _ hne, heap_setCell_other _ _ _ _ hne]
      rfl
  have i4 : ((c : Int) == 4) = false := beq_eq_false_iff_ne.2 (by omega)
  · have hS : comparedS v c n = .atLeast v n := by unfold comparedS; rw [if_neg h1, if_neg h2, if_neg h3, if_neg h4]
    rw [hS]
    clear h1 h2 h3 h4 hS
    go_enter Tryz.func137, Tryz.ntmps137
    go_wp2_with fail
    have hB0 := ((Below.refl w.heap.size w).alloc (Nat.le_refl _) (.cells #[.int .i64 v] 3)).alloc (by simp) (.cells #[.int .i64 0, .int .i64 0, .int .i64 0, .slice none 0 0] 49)
    have HZ0 := Lib.hid (Z4.new (w.alloc (.cells #[.int .i64 v] 3)))
    rw [World.size_alloc] at HZ0
    have HB0 := Lib.hid hB0
    clear hB0
    go_at_call 168
    refine (HW.out _ HB0.out _ (Below.refl _ _)).mono ?_
    rintro e w1 ⟨rfl, hb⟩
    have HZ := Lib.hid (HZ0.out.bel hb (by simp))
    have HB := Lib.hid (HB0.out.trans (hb.mono HB0.out.size))
    clear hb HZ0 HB0 HW
    obtain ⟨u0, u1, u2, u3, z0, z1, z2, z3⟩ := HZ.out.ex
    have f0 := HZ.out.fz 0
    have f1 := HZ.out.fz 1
    have f2 := HZ.out.fz 2
    have f3 := HZ.out.fz 3
    go_wp2_with fail
    have HC := HZ.out.put (.int .i64 1) (.int .i64 v) (.int .i64 (n)) (.slice none 0 0)
    unfold put4 at HC
    obtain ⟨c0, c1, c2, c3⟩ := HC
    refine bodyPost_ret (v := .agg #[.int .i64 1, .int .i64 v, .int .i64 (n), .slice none 0 0]) ?_ rfl ⟨none, 0, rfl, CdIn.leaf, put4_below HB.out (Nat.le_succ _) _ _ _ _⟩
    simp [results, Tryz.results137, go_sem, c0, c1, c2, c3]
end Go.Proofs.YtdhdjfkknfbmhaaGreatDoor
