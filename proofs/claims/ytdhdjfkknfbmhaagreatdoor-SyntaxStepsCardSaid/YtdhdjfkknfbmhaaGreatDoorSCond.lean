/- condition and its closures. -/
import Derived.Test.YtdhdjfkknfbmhaaGreatDoorSJoin2
namespace Go.Proofs.YtdhdjfkknfbmhaaGreatDoor
open Go.RowKit

set_option maxHeartbeats 4000000 in
set_option maxRecDepth 100000 in
theorem clos1_any (U : P Cd) (d : Int) (b1 b2 : Nat) (w : World) (pb tb off cap : Nat) (M : Nat → Value) (L : List Tk) (i : Nat) (h : Psr w pb tb off cap M L i)
    (h1 : w.cell? ⟨b1, 0, none⟩ = some (.pointer (some ⟨pb, 0, none⟩))) (h2 : w.cell? ⟨b2, 0, none⟩ = some (.int .i64 d)) (l1 : b1 < w.heap.size) (l2 : b2 < w.heap.size)
    (hG : GlE w) (hU : ∀ wx q, GlE wx → Psr wx pb tb off cap M L q → Calls Tryz.prog 97 #[.pointer (some ⟨pb, 0, none⟩), .int .i64 d] wx fun e w' => EndsC wx pb tb off cap M L (U (L.drop q)) e w') :
    Calls Tryz.prog 96 #[.pointer (some ⟨b1, 0, none⟩), .pointer (some ⟨b2, 0, none⟩)] w fun e w' => EndsC w pb tb off cap M L (U (L.drop i)) e w' := by
  have HA0 := Lib.hid ((Below.refl w.heap.size w).alloc (Nat.le_refl _) (.cells #[.int .i64 0, .int .i64 0, .int .i64 0, .slice none 0 0] 49))
  have HZ0 := Lib.hid (Z4.new w)
  have HK0 := Lib.hid (Kp.ofBelow (sb := pb) HA0.out (Nat.le_refl _))
  have HU0 := Lib.hid (hU _ i (hG.bel HA0.out) (h.bel HA0.out (Nat.le_refl _)))
  have e1 := (HA0.out.cell (p := ⟨b1, 0, none⟩) l1).trans h1
  have e2 := (HA0.out.cell (p := ⟨b2, 0, none⟩) l2).trans h2
  have hpb := h.lt
  have htb := h.tlt
  clear hU h1 h2 h hG
  cases hx : U (L.drop i) with
  | err a x =>
    rw [hx] at HU0
    clear hx
    show Calls _ _ _ _ fun e w' => e = .panicked (failV a x) ∧ Kp w w' pb
    go_enter Tryz.func96, Tryz.ntmps96
    go_wp2_with fail
    go_at_call 97
    refine HU0.out.mono ?_
    rintro e w1 ⟨rfl, hk⟩
    go_wp2_with fail
    exact ⟨rfl, rfl, HK0.out.trans hk⟩
  | ok c r =>
    rw [hx] at HU0
    clear hx
    go_enter Tryz.func96, Tryz.ntmps96
    go_wp2_with fail
    go_at_call 97
    refine HU0.out.mono ?_
    rintro e w1 ⟨p, k, rfl, hc, hk, q, rfl, hp⟩
    have HZ := Lib.hid (HZ0.out.kp hk (by omega))
    have HK := Lib.hid (HK0.out.trans hk)
    rw [World.size_alloc] at hc
    have HC := Lib.hid hc
    have HP := Lib.hid hp
    clear hc hk hp HZ0 HK0 HA0 HU0 e1 e2
    obtain ⟨u0, u1, u2, u3, z0, z1, z2, z3⟩ := HZ.out.ex
    have f0 := HZ.out.fz 0
    have f1 := HZ.out.fz 1
    have f2 := HZ.out.fz 2
    have f3 := HZ.out.fz 3
    unfold cV
    go_wp2_with fail
    have HX := HZ.out.put (.int .i64 c.k) (.int .i64 c.v) (.int .i64 c.n) (.slice p c.ps.length k)
    unfold put4 at HX
    obtain ⟨c0, c1, c2, c3⟩ := HX
    refine bodyPost_ret (v := .agg #[.int .i64 c.k, .int .i64 c.v, .int .i64 c.n, .slice p c.ps.length k]) ?_ rfl (put4_end hpb htb HP.out HK.out HC.out _ _ _ _)
    simp [results, Tryz.results96, go_sem, c0, c1, c2, c3]

theorem kp_cell {w w' : World} {pb b o : Nat} {v : Value} (hk : Kp w w' pb) (hb : b < w.heap.size) (hne : b ≠ pb) (h : w.cell? ⟨b, o, none⟩ = some v) : w'.cell? ⟨b, o, none⟩ = some v :=
  (World.cell?_of_block (a := ⟨b, o, none⟩) (hk.block b hb hne)).trans h
theorem EndsC.weaken {w w2 w' : World} {pb tb off cap : Nat} {M : Nat → Value} {L : List Tk} {T : PR Cd} {e : Ending} (hb : Below w.heap.size w w2) (h : EndsC w2 pb tb off cap M L T e w') : EndsC w pb tb off cap M L T e w' := by
  cases T with
  | err a x => exact ⟨h.1, (Kp.ofBelow hb (Nat.le_refl _)).trans h.2⟩
  | ok c r =>
    obtain ⟨p, k, he, hc, hk, hq⟩ := h
    exact ⟨p, k, he, hc.mono fun b hb2 => Nat.le_trans hb.size hb2, (Kp.ofBelow hb (Nat.le_refl _)).trans hk, hq⟩

set_option maxHeartbeats 4000000 in
set_option maxRecDepth 100000 in
theorem clos2_any (U : P Cd) (hless : Less U) (d : Int) (b1 b2 b3 : Nat) (w : World) (pb tb off cap : Nat) (M : Nat → Value) (L : List Tk) (i : Nat) (h : Psr w pb tb off cap M L i)
    (h1 : w.cell? ⟨b1, 0, none⟩ = some (.pointer (some ⟨pb, 0, none⟩))) (h2 : w.cell? ⟨b2, 0, none⟩ = some (.int .i64 d)) (h3 : w.cell? ⟨b3, 0, none⟩ = some (.func (Fn.func 96) #[] #[.pointer (some ⟨b1, 0, none⟩), .pointer (some ⟨b2, 0, none⟩)]))
    (l1 : b1 < w.heap.size) (l2 : b2 < w.heap.size) (l3 : b3 < w.heap.size) (n1 : b1 ≠ pb) (n2 : b2 ≠ pb)
    (hG : GlE w) (hU : ∀ wx q, GlE wx → Psr wx pb tb off cap M L q → Calls Tryz.prog 97 #[.pointer (some ⟨pb, 0, none⟩), .int .i64 d] wx fun e w' => EndsC wx pb tb off cap M L (U (L.drop q)) e w') :
    Calls Tryz.prog 98 #[.pointer (some ⟨b1, 0, none⟩), .pointer (some ⟨b3, 0, none⟩)] w fun e w' => EndsC w pb tb off cap M L (joinedS wAnd 2 U (L.drop i)) e w' := by
  have hA := (Below.refl w.heap.size w).alloc (Nat.le_refl _) (.cells #[.int .i64 0, .int .i64 0, .int .i64 0, .slice none 0 0] 49)
  have HA0 := Lib.hid hA
  have HZ0 := Lib.hid (Z4.new w)
  have HK0 := Lib.hid (Kp.ofBelow (sb := pb) HA0.out (Nat.le_refl _))
  have e1 := (HA0.out.cell (p := ⟨b1, 0, none⟩) l1).trans h1
  have e2 := (HA0.out.cell (p := ⟨b2, 0, none⟩) l2).trans h2
  have e3 := (HA0.out.cell (p := ⟨b3, 0, none⟩) l3).trans h3
  have k1 := Nat.lt_of_lt_of_le l1 hA.size
  have k2 := Nat.lt_of_lt_of_le l2 hA.size
  have HU0 : Hid (Calls Tryz.prog 99 #[.pointer (some ⟨pb, 0, none⟩), .string (S wAnd), .int .i64 2, .func (Fn.func 96) #[] #[.pointer (some ⟨b1, 0, none⟩), .pointer (some ⟨b2, 0, none⟩)]] _ fun e w' => EndsC _ pb tb off cap M L (joinedS wAnd 2 U (L.drop i)) e w') :=
    Lib.hid (joined1_any wAnd (by decide) 2 U hless b1 b2 _ pb tb off cap M L i (h.bel hA (Nat.le_refl _)) fun wx q hk hq => clos1_any U d b1 b2 wx pb tb off cap M L q hq (kp_cell hk k1 n1 e1) (kp_cell hk k2 n2 e2) (Nat.lt_of_lt_of_le k1 hk.size) (Nat.lt_of_lt_of_le k2 hk.size) ((hG.bel hA).kp hk h.h9) hU)
  have hpb := h.lt
  have htb := h.tlt
  clear hU h1 h2 h3 h hA k1 k2 e2 hG
  generalize joinedS wAnd 2 U = J at *
  cases hx : J (L.drop i) with
  | err a x =>
    rw [hx] at HU0
    clear hx
    show Calls _ _ _ _ fun e w' => e = .panicked (failV a x) ∧ Kp w w' pb
    go_enter Tryz.func98, Tryz.ntmps98
    go_wp2_with fail
    go_at_call 99
    refine HU0.out.mono ?_
    rintro e w1 ⟨rfl, hk⟩
    go_wp2_with fail
    exact ⟨rfl, rfl, HK0.out.trans hk⟩
  | ok c r =>
    rw [hx] at HU0
    clear hx
    go_enter Tryz.func98, Tryz.ntmps98
    go_wp2_with fail
    go_at_call 99
    refine HU0.out.mono ?_
    rintro e w1 ⟨p, k, rfl, hc, hk, q, rfl, hp⟩
    have HZ := Lib.hid (HZ0.out.kp hk (by omega))
    have HK := Lib.hid (HK0.out.trans hk)
    rw [World.size_alloc] at hc
    have HC := Lib.hid hc
    have HP := Lib.hid hp
    clear hc hk hp HZ0 HK0 HA0 HU0 e1 e3
    obtain ⟨u0, u1, u2, u3, z0, z1, z2, z3⟩ := HZ.out.ex
    have f0 := HZ.out.fz 0
    have f1 := HZ.out.fz 1
    have f2 := HZ.out.fz 2
    have f3 := HZ.out.fz 3
    unfold cV
    go_wp2_with fail
    have HX := HZ.out.put (.int .i64 c.k) (.int .i64 c.v) (.int .i64 c.n) (.slice p c.ps.length k)
    unfold put4 at HX
    obtain ⟨c0, c1, c2, c3⟩ := HX
    refine bodyPost_ret (v := .agg #[.int .i64 c.k, .int .i64 c.v, .int .i64 c.n, .slice p c.ps.length k]) ?_ rfl (put4_end hpb htb HP.out HK.out HC.out _ _ _ _)
    simp [results, Tryz.results98, go_sem, c0, c1, c2, c3]
end Go.Proofs.YtdhdjfkknfbmhaaGreatDoor
