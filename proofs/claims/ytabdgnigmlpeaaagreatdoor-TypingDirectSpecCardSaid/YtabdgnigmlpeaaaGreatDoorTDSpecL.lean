/- The law: TypingDirectSpec, out of the contract of the specification's Direct. -/
import Derived.Test.YtabdgnigmlpeaaaGreatDoorTLaw3
import Derived.Test.YtabdgnigmlpeaaaGreatDoorTHolds
import Derived.Test.YtabdgnigmlpeaaaGreatDoorTRefL
namespace Go.Proofs.YtabdgnigmlpeaaaGreatDoor
open Go.RowKit

theorem holds_same (c : Cd) (x : En) : holdsR c x = rHoldsR c x := by
  unfold holdsR rHoldsR
  rw [cond_same]
  by_cases h : rCond c = 0
  · rw [hold_form x c (okC_of c h)]
  · rw [if_pos h, if_pos h]
theorem tHolds_r {w : World} {Q : Nat → Prop} {c : Cd} {p : Option Addr} {cap : Nat} (h : CdIn w Q c p cap) (x : En) :
    Calls Tryz.prog 24 #[cV c p cap, envV x] w fun e w' => e = .returned (.tuple #[.bool (rHoldsR c x).1, .int .i64 (rHoldsR c x).2]) ∧ Below w.heap.size w w' := by
  have := tHolds_any h x
  rwa [holds_same] at this
/-- The contract of the specification's Direct. -/
def RDirect : Prop := ∀ {w : World} {Q : Nat → Prop} {l : List St} {p : Option Addr} {cap : Nat}, SsIn w Q l p cap → ∀ x : En, Calls Tryz.prog 23 #[.slice p l.length cap, envV x] w (DirR w (directR l x))
set_option maxHeartbeats 4000000 in
set_option maxRecDepth 100000 in
theorem directSpec_of (hRD : RDirect) {w : World} {Q Q' : Nat → Prop} {c : Cd} {p : Option Addr} {cap : Nat} {l : List St} {p2 : Option Addr} {cap2 : Nat} (hS : SsIn w Q' l p2 cap2) (hC : CdIn w Q c p cap) (x : En) :
    Calls Tryz.prog 5 #[.slice p2 l.length cap2, cV c p cap, envV x] w fun e w' => e = .returned (.bool true) ∧ Below w.heap.size w w' := by
  have hA := (Below.refl w.heap.size w).alloc (Nat.le_refl _) (.cells #[.int .i64 c.k, .int .i64 c.v, .int .i64 c.n, .slice p c.ps.length cap] 40)
  have HA := Lib.hid (hA.alloc hA.size (.cells #[.int .i64 x.d, .int .i64 x.f, .int .i64 x.s] 42))
  have HX : Hid (∀ w', Below ((w.alloc (.cells #[.int .i64 c.k, .int .i64 c.v, .int .i64 c.n, .slice p c.ps.length cap] 40)).alloc (.cells #[.int .i64 x.d, .int .i64 x.f, .int .i64 x.s] 42)).heap.size ((w.alloc (.cells #[.int .i64 c.k, .int .i64 c.v, .int .i64 c.n, .slice p c.ps.length cap] 40)).alloc (.cells #[.int .i64 x.d, .int .i64 x.f, .int .i64 x.s] 42)) w' → w'.cell? ⟨w.heap.size, 0, none⟩ = some (.int .i64 c.k) ∧ w'.cell? ⟨w.heap.size, 1, none⟩ = some (.int .i64 c.v) ∧ w'.cell? ⟨w.heap.size, 2, none⟩ = some (.int .i64 c.n) ∧ w'.cell? ⟨w.heap.size, 3, none⟩ = some (.slice p c.ps.length cap) ∧ w'.cell? ⟨w.heap.size + 1, 0, none⟩ = some (.int .i64 x.d) ∧ w'.cell? ⟨w.heap.size + 1, 1, none⟩ = some (.int .i64 x.f) ∧ w'.cell? ⟨w.heap.size + 1, 2, none⟩ = some (.int .i64 x.s)) := Lib.hid fun w' hb =>
    ⟨keepc hb (by simp [go_sem]), keepc hb (by simp [go_sem]), keepc hb (by simp [go_sem]), keepc hb (by simp [go_sem]), keepc hb (by simp [go_sem]), keepc hb (by simp [go_sem]), keepc hb (by simp [go_sem])⟩
  have KF : Hid (∀ A w', Below w.heap.size w A → Below A.heap.size A w' → Calls Tryz.prog 14 #[cV c p cap] w' fun e w2 => e = .returned (.bool (fewC c)) ∧ Hid (Below A.heap.size A w2)) := Lib.hid fun A w' h0 hb => (fewCond_any (hC.bel (h0.trans (hb.mono h0.size)))).mono fun e w2 hr => ⟨hr.1, Lib.hid (hb.trans (hr.2.mono hb.size))⟩
  have KG : Hid (∀ A w', Below w.heap.size w A → Below A.heap.size A w' → Calls Tryz.prog 15 #[.slice p2 l.length cap2] w' fun e w2 => e = .returned (.bool (fewS l)) ∧ Hid (Below A.heap.size A w2)) := Lib.hid fun A w' h0 hb => (few_any (hS.bel (h0.trans (hb.mono h0.size)))).mono fun e w2 hr => ⟨hr.1, Lib.hid (hb.trans (hr.2.mono hb.size))⟩
  have K1 : Hid (∀ A w', Below w.heap.size w A → Below A.heap.size A w' → Calls Tryz.prog 22 #[.slice p2 l.length cap2, envV x] w' fun e w2 => ∃ v, e = .returned (.tuple #[v, .int .i64 (directR l x).2]) ∧ Hid (ReadsI w2 v (directR l x).1) ∧ Hid (Below w'.heap.size w' w2) ∧ Hid (Below A.heap.size A w2)) := Lib.hid fun A w' h0 hb => (tDirect_any (hS.bel (h0.trans (hb.mono h0.size))) x).mono fun e w2 ⟨v, h1, h2, h3⟩ => ⟨v, h1, Lib.hid h2, Lib.hid h3, Lib.hid (hb.trans (h3.mono hb.size))⟩
  have K2 : Hid (∀ A w', Below w.heap.size w A → Below A.heap.size A w' → Calls Tryz.prog 23 #[.slice p2 l.length cap2, envV x] w' fun e w2 => ∃ v, e = .returned (.tuple #[v, .int .i64 (directR l x).2]) ∧ Hid (ReadsI w2 v (directR l x).1) ∧ Hid (Below w'.heap.size w' w2) ∧ Hid (Below A.heap.size A w2)) := Lib.hid fun A w' h0 hb => (hRD (hS.bel (h0.trans (hb.mono h0.size))) x).mono fun e w2 ⟨v, h1, h2, h3⟩ => ⟨v, h1, Lib.hid h2, Lib.hid h3, Lib.hid (hb.trans (h3.mono hb.size))⟩
  have K3 : Hid (∀ A w', Below w.heap.size w A → Below A.heap.size A w' → Calls Tryz.prog 24 #[cV c p cap, envV x] w' fun e w2 => e = .returned (.tuple #[.bool (rHoldsR c x).1, .int .i64 (rHoldsR c x).2]) ∧ Hid (Below A.heap.size A w2)) := Lib.hid fun A w' h0 hb => (tHolds_r (hC.bel (h0.trans (hb.mono h0.size))) x).mono fun e w2 hr => ⟨hr.1, Lib.hid (hb.trans (hr.2.mono hb.size))⟩
  have K4 : Hid (∀ A w', Below w.heap.size w A → Below A.heap.size A w' → Calls Tryz.prog 25 #[cV c p cap, envV x] w' fun e w2 => e = .returned (.tuple #[.bool (rHoldsR c x).1, .int .i64 (rHoldsR c x).2]) ∧ Hid (Below A.heap.size A w2)) := Lib.hid fun A w' h0 hb => (rHolds_any x (hC.bel (h0.trans (hb.mono h0.size)))).mono fun e w2 hr => ⟨hr.1, Lib.hid (hb.trans (hr.2.mono hb.size))⟩
  clear hC hS hA
  unfold cV at *
  unfold envV at *
  generalize fewC c = q1 at *
  generalize fewS l = q2 at *
  generalize directR l x = dr at *
  obtain ⟨L, cd⟩ := dr
  generalize rHoldsR c x = hr at *
  obtain ⟨hq, hc⟩ := hr
  simp only at *
  generalize c.k = x1 at *
  generalize c.v = x2 at *
  generalize c.n = x3 at *
  generalize c.ps.length = x4 at *
  generalize l.length = ln at *
  have b1 : (cd == cd) = true := beq_self_eq_true cd
  have b2 : (hc == hc) = true := beq_self_eq_true hc
  have b3 : (hq == hq) = true := beq_self_eq_true hq
  go_enter Tryz.func5, Tryz.ntmps5
  go_wp2_with fail
  go_at_call 10
  generalize ((w.alloc (.cells #[.int .i64 x1, .int .i64 x2, .int .i64 x3, .slice p x4 cap] 40)).alloc (.cells #[.int .i64 x.d, .int .i64 x.f, .int .i64 x.s] 42)) = A at *
  refine (sane_any A).mono ?_
  rintro e w1 ⟨rfl, hb⟩
  have HB := Lib.hid hb
  obtain ⟨y0, y1, y2, y3, y4, y5, y6⟩ := HX.out w1 hb
  clear hb
  cases q2 with
  | false =>
    go_wp2_with (go_at_call 15; (with_reducible refine (KG.out A _ HA.out HB.out).mono ?_); rintro e w2 ⟨rfl, hb⟩)
    go_ret
    exact ⟨rfl, HA.out.trans (hb.out.mono HA.out.size)⟩
  | true =>
    cases q1 with
    | false =>
      go_wp2_with (first
        | (go_at_call 15; (with_reducible refine (KG.out A _ HA.out HB.out).mono ?_); rintro e w2 ⟨rfl, hb⟩; clear y0 y1 y2 y3 y4 y5 y6; obtain ⟨y0, y1, y2, y3, y4, y5, y6⟩ := HX.out w2 hb.out)
        | (go_at_call 14; (with_reducible refine (KF.out A _ HA.out hb.out).mono ?_); rintro e w3 ⟨rfl, hb'⟩))
      go_ret
      exact ⟨rfl, HA.out.trans (hb'.out.mono HA.out.size)⟩
    | true =>
      go_wp2_with (first
        | (go_at_call 15; (with_reducible refine (KG.out A _ HA.out HB.out).mono ?_); rintro e w2 ⟨rfl, hb⟩; clear y0 y1 y2 y3 y4 y5 y6; obtain ⟨y0, y1, y2, y3, y4, y5, y6⟩ := HX.out w2 hb.out)
        | (go_at_call 14; (with_reducible refine (KF.out A _ HA.out hb.out).mono ?_); rintro e w3 ⟨rfl, hb0⟩; clear y0 y1 y2 y3 y4 y5 y6; obtain ⟨y0, y1, y2, y3, y4, y5, y6⟩ := HX.out w3 hb0.out)
        | (go_at_call 22; (with_reducible refine (K1.out A _ HA.out hb0.out).mono ?_); rintro e w4 ⟨va, rfl, hr1, -, hb1⟩; clear y0 y1 y2 y3 y4 y5 y6; obtain ⟨y0, y1, y2, y3, y4, y5, y6⟩ := HX.out w4 hb1.out)
        | (go_at_call 23; (with_reducible refine (K2.out A _ HA.out hb1.out).mono ?_); rintro e w5 ⟨vb, rfl, hr2, hs2, hb2⟩; have HR1 := Lib.hid (hr1.out.bel hs2.out); clear y0 y1 y2 y3 y4 y5 y6; obtain ⟨y0, y1, y2, y3, y4, y5, y6⟩ := HX.out w5 hb2.out)
        | (go_at_call 24; (with_reducible refine (K3.out _ _ (HA.out.trans (hb2.out.mono HA.out.size)) (Below.refl _ _)).mono ?_); rintro e w6 ⟨rfl, hb3⟩; have HA3 := Lib.hid (hb2.out.trans (hb3.out.mono hb2.out.size)); clear y0 y1 y2 y3 y4 y5 y6; obtain ⟨y0, y1, y2, y3, y4, y5, y6⟩ := HX.out w6 HA3.out)
        | (go_at_call 25; (with_reducible refine (K4.out _ _ (HA.out.trans (HA3.out.mono HA.out.size)) (Below.refl _ _)).mono ?_); rintro e w7 ⟨rfl, hb4⟩; have HA4 := Lib.hid (HA3.out.trans (hb4.out.mono HA3.out.size)); have HR1' := Lib.hid ((HR1.out.bel hb3.out).bel hb4.out); have HR2' := Lib.hid ((hr2.out.bel hb3.out).bel hb4.out))
        | (go_at_call 26; (with_reducible refine (smYes L _ _ _ HR1'.out HR2'.out).mono ?_); rintro e w8 ⟨rfl, hb5⟩; have HA5 := Lib.hid (HA4.out.trans (hb5.mono HA4.out.size)); clear hb5))
      go_ret
      exact ⟨rfl, HA.out.trans (HA5.out.mono HA.out.size)⟩
end Go.Proofs.YtabdgnigmlpeaaaGreatDoor
/- The law: TypingDirectSpec. -/
namespace Go.Proofs.YtabdgnigmlpeaaaGreatDoor
open Go.RowKit

theorem directSpec_any {w : World} {Q Q' : Nat → Prop} {l : List St} {p2 : Option Addr} {cap2 : Nat} (hS : SsIn w Q' l p2 cap2) {c : Cd} {p : Option Addr} {cap : Nat} (hC : CdIn w Q c p cap) (x : En) :
    Calls Tryz.prog 5 #[.slice p2 l.length cap2, cV c p cap, envV x] w fun e w' => e = .returned (.bool true) ∧ Below w.heap.size w w' :=
  directSpec_of (rDirect_of rap) hS hC x
end Go.Proofs.YtabdgnigmlpeaaaGreatDoor
