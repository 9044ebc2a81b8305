/- condition; the induction over the levels. -/
import Derived.Test.YtdhdjfkknfbmhaaGreatDoorSCond
namespace Go.Proofs.YtdhdjfkknfbmhaaGreatDoor
open Go.RowKit

set_option maxHeartbeats 4000000 in
set_option maxRecDepth 100000 in
theorem condition_any (U : P Cd) (hless : Less U) (d : Int) (w : World) (pb tb off cap : Nat) (M : Nat → Value) (L : List Tk) (i : Nat) (h : Psr w pb tb off cap M L i)
    (hG : GlE w) (hU : ∀ wx q, GlE wx → Psr wx pb tb off cap M L q → Calls Tryz.prog 97 #[.pointer (some ⟨pb, 0, none⟩), .int .i64 d] wx fun e w' => EndsC wx pb tb off cap M L (U (L.drop q)) e w') :
    Calls Tryz.prog 36 #[.pointer (some ⟨pb, 0, none⟩), .int .i64 d] w fun e w' => EndsC w pb tb off cap M L (condOf U (L.drop i)) e w' := by
  have hmf : ∀ (fn : Fn) (first cap : Array Value) (w : World), (Instr.makeFunc fn first cap).run Tryz.prog w = .ok (.func fn first cap) w := fun _ _ _ _ => rfl
  have hA1 := (Below.refl w.heap.size w).alloc (Nat.le_refl _) (.cells #[.pointer (some ⟨pb, 0, none⟩)] 85)
  have hA2 := hA1.alloc hA1.size (.cells #[.int .i64 d] 3)
  have hA3 := hA2.alloc hA2.size (.cells #[.int .i64 0, .int .i64 0, .int .i64 0, .slice none 0 0] 49)
  have hA4 := hA3.alloc hA3.size (.cells #[.func (Fn.func 96) #[] #[.pointer (some ⟨w.heap.size, 0, none⟩), .pointer (some ⟨w.heap.size + 1, 0, none⟩)]] 158)
  have hpb := h.lt
  have htb := h.tlt
  have HZ0 := Lib.hid (((Z4.new ((w.alloc (.cells #[.pointer (some ⟨pb, 0, none⟩)] 85)).alloc (.cells #[.int .i64 d] 3)))).bel ((Below.refl _ _).alloc (Nat.le_refl _) (.cells #[.func (Fn.func 96) #[] #[.pointer (some ⟨w.heap.size, 0, none⟩), .pointer (some ⟨w.heap.size + 1, 0, none⟩)]] 158)) (by simp))
  have HKA := Lib.hid (Kp.ofBelow (sb := pb) ((Below.refl _ ((w.alloc (.cells #[.pointer (some ⟨pb, 0, none⟩)] 85)).alloc (.cells #[.int .i64 d] 3))).alloc (Nat.le_refl _) (.cells #[.int .i64 0, .int .i64 0, .int .i64 0, .slice none 0 0] 49)) (Nat.le_refl _))
  have HKB := Lib.hid (Kp.ofBelow (sb := pb) ((Below.refl _ (((w.alloc (.cells #[.pointer (some ⟨pb, 0, none⟩)] 85)).alloc (.cells #[.int .i64 d] 3)).alloc (.cells #[.int .i64 0, .int .i64 0, .int .i64 0, .slice none 0 0] 49))).alloc (Nat.le_refl _) (.cells #[.func (Fn.func 96) #[] #[.pointer (some ⟨w.heap.size, 0, none⟩), .pointer (some ⟨w.heap.size + 1, 0, none⟩)]] 158)) (Nat.le_refl _))
  have HKC := Lib.hid (HKA.out.trans HKB.out)
  have HU0 : Hid (Calls Tryz.prog 99 #[.pointer (some ⟨pb, 0, none⟩), .string (S wOr), .int .i64 3, .func (Fn.func 98) #[] #[.pointer (some ⟨w.heap.size, 0, none⟩), .pointer (some ⟨w.heap.size + 1 + 1 + 1, 0, none⟩)]] _ fun e w' => EndsC _ pb tb off cap M L (joinedS wOr 3 (joinedS wAnd 2 U) (L.drop i)) e w') :=
    Lib.hid (joined2_any wOr (by decide) 3 (joinedS wAnd 2 U) (joined_less hless) w.heap.size (w.heap.size + 1 + 1 + 1) _ pb tb off cap M L i (h.bel hA4 (Nat.le_refl _)) fun wx q hk hq => by
      have hs := hk.size
      simp only [World.size_alloc] at hs
      exact clos2_any U hless d w.heap.size (w.heap.size + 1) (w.heap.size + 1 + 1 + 1) wx pb tb off cap M L q hq
        (kp_cell hk (by simp only [World.size_alloc]; omega) (by omega) (by simp [go_sem])) (kp_cell hk (by simp only [World.size_alloc]; omega) (by omega) (by simp [go_sem])) (kp_cell hk (by simp) (by omega) (by simp [go_sem]))
        (by omega) (by omega) (by omega) (by omega) (by omega) ((hG.bel hA4).kp hk h.h9) hU)
  have HB2 := Lib.hid hA2
  have HB4 := Lib.hid (Kp.ofBelow (sb := pb) hA4 (Nat.le_refl _))
  have hcond : condOf U = joinedS wOr 3 (joinedS wAnd 2 U) := rfl
  rw [hcond]
  clear hU hG h hA1 hA2 hA3 hA4 hcond HKA HKB
  generalize joinedS wOr 3 (joinedS wAnd 2 U) = J at *
  cases hx : J (L.drop i) with
  | err a x =>
    rw [hx] at HU0
    clear hx
    show Calls _ _ _ _ fun e w' => e = .panicked (failV a x) ∧ Kp w w' pb
    go_enter Tryz.func36, Tryz.ntmps36
    go_wp2_with fail
    go_at_call 99
    refine HU0.out.mono ?_
    rintro e w1 ⟨rfl, hk⟩
    go_wp2_with fail
    exact ⟨rfl, rfl, HB4.out.trans hk⟩
  | ok c r =>
    rw [hx] at HU0
    clear hx
    go_enter Tryz.func36, Tryz.ntmps36
    go_wp2_with fail
    go_at_call 99
    refine HU0.out.mono ?_
    rintro e w1 ⟨p, k, rfl, hc, hk, q, rfl, hp⟩
    have HZ := HZ0.out.kp hk (by simp; omega)
    have HK := Lib.hid (HKC.out.trans hk)
    have HC := Lib.hid (hc.mono (Q' := fun b => ((w.alloc (.cells #[.pointer (some ⟨pb, 0, none⟩)] 85)).alloc (.cells #[.int .i64 d] 3)).heap.size + 1 ≤ b) fun b hb => by simp only [World.size_alloc] at hb ⊢; omega)
    have HE := Lib.hid ((put4_end (by simp; omega) (by simp; omega) hp HK.out HC.out (.int .i64 c.k) (.int .i64 c.v) (.int .i64 c.n) (.slice p c.ps.length k)).weaken HB2.out)
    simp only [World.size_alloc] at HZ HE
    have HZ := Lib.hid HZ
    clear hc hk hp HZ0 HKC HC HK HB2 HB4 HU0
    obtain ⟨u0, u1, u2, u3, z0, z1, z2, z3⟩ := HZ.out.ex
    have f0 := HZ.out.fz 0
    have f1 := HZ.out.fz 1
    have f2 := HZ.out.fz 2
    have f3 := HZ.out.fz 3
    unfold cV
    go_wp2_with fail
    have HX := HZ.out.put (.int .i64 c.k) (.int .i64 c.v) (.int .i64 c.n) (.slice p c.ps.length k)
    unfold put4 at HX
    obtain ⟨c0, c1, c2, c3⟩ := HX
    refine bodyPost_ret (v := .agg #[.int .i64 c.k, .int .i64 c.v, .int .i64 c.n, .slice p c.ps.length k]) ?_ rfl HE.out
    simp [results, Tryz.results36, go_sem, c0, c1, c2, c3]
end Go.Proofs.YtdhdjfkknfbmhaaGreatDoor
