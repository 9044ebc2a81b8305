/- The law: TypingCondSpec. -/
import Derived.Test.YtabdgnigmlpeaaaGreatDoorTLaw2
import Derived.Test.YtabdgnigmlpeaaaGreatDoorTRefK
namespace Go.Proofs.YtabdgnigmlpeaaaGreatDoor
open Go.RowKit

theorem held7h {A B C D E F G H : Prop} (h : A ∧ B ∧ C ∧ D ∧ E ∧ F ∧ G ∧ Hid H) : H := h.2.2.2.2.2.2.2.out
theorem tCond_r {w : World} {Q : Nat → Prop} {c : Cd} {p : Option Addr} {cap : Nat} (h : CdIn w Q c p cap) :
    Calls Tryz.prog 16 #[cV c p cap] w fun e w' => e = .returned (.int .i64 (rCond c)) ∧ Below w.heap.size w w' := by
  have := tCond_any h; rwa [cond_same] at this
theorem tTies_r {w : World} {Q : Nat → Prop} {l : List St} {p : Option Addr} {cap : Nat} (h : SsIn w Q l p cap) :
    Calls Tryz.prog 18 #[.slice p l.length cap] w fun e w' => e = .returned (.int .i64 (rTies l)) ∧ Below w.heap.size w w' := by
  have := tTies_any h; rwa [ties_same] at this
set_option maxHeartbeats 4000000 in
set_option maxRecDepth 100000 in
theorem condSpec_any {w : World} {Q Q' : Nat → Prop} {c : Cd} {p : Option Addr} {cap : Nat} {l : List St} {p2 : Option Addr} {cap2 : Nat} (hC : CdIn w Q c p cap) (hS : SsIn w Q' l p2 cap2) (x : En) :
    Calls Tryz.prog 4 #[cV c p cap, .slice p2 l.length cap2, envV x] w fun e w' => e = .returned (.bool true) ∧ Below w.heap.size w w' := by
  have hA := (Below.refl w.heap.size w).alloc (Nat.le_refl _) (.cells #[.int .i64 c.k, .int .i64 c.v, .int .i64 c.n, .slice p c.ps.length cap] 40)
  have HA := Lib.hid (hA.alloc hA.size (.cells #[.int .i64 x.d, .int .i64 x.f, .int .i64 x.s] 42))
  have HX : Hid (∀ w', Below ((w.alloc (.cells #[.int .i64 c.k, .int .i64 c.v, .int .i64 c.n, .slice p c.ps.length cap] 40)).alloc (.cells #[.int .i64 x.d, .int .i64 x.f, .int .i64 x.s] 42)).heap.size ((w.alloc (.cells #[.int .i64 c.k, .int .i64 c.v, .int .i64 c.n, .slice p c.ps.length cap] 40)).alloc (.cells #[.int .i64 x.d, .int .i64 x.f, .int .i64 x.s] 42)) w' → w'.cell? ⟨w.heap.size, 0, none⟩ = some (.int .i64 c.k) ∧ w'.cell? ⟨w.heap.size, 1, none⟩ = some (.int .i64 c.v) ∧ w'.cell? ⟨w.heap.size, 2, none⟩ = some (.int .i64 c.n) ∧ w'.cell? ⟨w.heap.size, 3, none⟩ = some (.slice p c.ps.length cap) ∧ w'.cell? ⟨w.heap.size + 1, 0, none⟩ = some (.int .i64 x.d) ∧ w'.cell? ⟨w.heap.size + 1, 1, none⟩ = some (.int .i64 x.f) ∧ w'.cell? ⟨w.heap.size + 1, 2, none⟩ = some (.int .i64 x.s) ∧ Hid (Below ((w.alloc (.cells #[.int .i64 c.k, .int .i64 c.v, .int .i64 c.n, .slice p c.ps.length cap] 40)).alloc (.cells #[.int .i64 x.d, .int .i64 x.f, .int .i64 x.s] 42)).heap.size ((w.alloc (.cells #[.int .i64 c.k, .int .i64 c.v, .int .i64 c.n, .slice p c.ps.length cap] 40)).alloc (.cells #[.int .i64 x.d, .int .i64 x.f, .int .i64 x.s] 42)) w')) := Lib.hid fun w' hb =>
    ⟨keepc hb (by simp [go_sem]), keepc hb (by simp [go_sem]), keepc hb (by simp [go_sem]), keepc hb (by simp [go_sem]), keepc hb (by simp [go_sem]), keepc hb (by simp [go_sem]), keepc hb (by simp [go_sem]), Lib.hid hb⟩
  have KF : Hid (∀ A w', Below w.heap.size w A → Below A.heap.size A w' → Calls Tryz.prog 14 #[cV c p cap] w' fun e w2 => e = .returned (.bool (fewC c)) ∧ Hid (Below A.heap.size A w2)) := Lib.hid fun A w' h0 hb => (fewCond_any (hC.bel (h0.trans (hb.mono h0.size)))).mono fun e w2 hr => ⟨hr.1, Lib.hid (hb.trans (hr.2.mono hb.size))⟩
  have KG : Hid (∀ A w', Below w.heap.size w A → Below A.heap.size A w' → Calls Tryz.prog 15 #[.slice p2 l.length cap2] w' fun e w2 => e = .returned (.bool (fewS l)) ∧ Hid (Below A.heap.size A w2)) := Lib.hid fun A w' h0 hb => (few_any (hS.bel (h0.trans (hb.mono h0.size)))).mono fun e w2 hr => ⟨hr.1, Lib.hid (hb.trans (hr.2.mono hb.size))⟩
  have K1 : Hid (∀ A w', Below w.heap.size w A → Below A.heap.size A w' → Calls Tryz.prog 16 #[cV c p cap] w' fun e w2 => e = .returned (.int .i64 (rCond c)) ∧ Hid (Below A.heap.size A w2)) := Lib.hid fun A w' h0 hb => (tCond_r (hC.bel (h0.trans (hb.mono h0.size)))).mono fun e w2 hr => ⟨hr.1, Lib.hid (hb.trans (hr.2.mono hb.size))⟩
  have K2 : Hid (∀ A w', Below w.heap.size w A → Below A.heap.size A w' → Calls Tryz.prog 17 #[cV c p cap] w' fun e w2 => e = .returned (.int .i64 (rCond c)) ∧ Hid (Below A.heap.size A w2)) := Lib.hid fun A w' h0 hb => (rcond_any (hC.bel (h0.trans (hb.mono h0.size)))).mono fun e w2 hr => ⟨hr.1, Lib.hid (hb.trans (hr.2.mono hb.size))⟩
  have K3 : Hid (∀ A w', Below w.heap.size w A → Below A.heap.size A w' → Calls Tryz.prog 18 #[.slice p2 l.length cap2] w' fun e w2 => e = .returned (.int .i64 (rTies l)) ∧ Hid (Below A.heap.size A w2)) := Lib.hid fun A w' h0 hb => (tTies_r (hS.bel (h0.trans (hb.mono h0.size)))).mono fun e w2 hr => ⟨hr.1, Lib.hid (hb.trans (hr.2.mono hb.size))⟩
  have K4 : Hid (∀ A w', Below w.heap.size w A → Below A.heap.size A w' → Calls Tryz.prog 19 #[.slice p2 l.length cap2] w' fun e w2 => e = .returned (.int .i64 (rTies l)) ∧ Hid (Below A.heap.size A w2)) := Lib.hid fun A w' h0 hb => (rties_any (hS.bel (h0.trans (hb.mono h0.size)))).mono fun e w2 hr => ⟨hr.1, Lib.hid (hb.trans (hr.2.mono hb.size))⟩
  have K5 : Hid (∀ A w', Below w.heap.size w A → Below A.heap.size A w' → Calls Tryz.prog 20 #[envV x] w' fun e w2 => e = .returned (.int .i64 (envE x)) ∧ Hid (Below A.heap.size A w2)) := Lib.hid fun A w' h0 hb => (env_any x w').mono fun e w2 hr => ⟨hr.1, Lib.hid (hb.trans (hr.2.mono hb.size))⟩
  have K6 : Hid (∀ A w', Below w.heap.size w A → Below A.heap.size A w' → Calls Tryz.prog 21 #[envV x] w' fun e w2 => e = .returned (.int .i64 (envE x)) ∧ Hid (Below A.heap.size A w2)) := Lib.hid fun A w' h0 hb => (renv_any x w').mono fun e w2 hr => ⟨hr.1, Lib.hid (hb.trans (hr.2.mono hb.size))⟩
  clear hC hS hA
  unfold cV at *
  unfold envV at *
  generalize fewC c = q1 at *
  generalize fewS l = q2 at *
  generalize rCond c = r1 at *
  generalize rTies l = r2 at *
  generalize envE x = r3 at *
  generalize c.k = x1 at *
  generalize c.v = x2 at *
  generalize c.n = x3 at *
  generalize c.ps.length = x4 at *
  generalize l.length = ln at *
  have b1 : (r1 == r1) = true := beq_self_eq_true r1
  have b2 : (r2 == r2) = true := beq_self_eq_true r2
  have b3 : (r3 == r3) = true := beq_self_eq_true r3
  go_enter Tryz.func4, Tryz.ntmps4
  go_wp2_with fail
  go_at_call 10
  generalize ((w.alloc (.cells #[.int .i64 x1, .int .i64 x2, .int .i64 x3, .slice p x4 cap] 40)).alloc (.cells #[.int .i64 x.d, .int .i64 x.f, .int .i64 x.s] 42)) = A at *
  refine (sane_any A).mono ?_
  rintro e w1 ⟨rfl, hb⟩
  have HB := Lib.hid hb
  obtain ⟨y0, y1, y2, y3, y4, y5, y6, -⟩ := HX.out w1 hb
  clear hb
  cases q1 with
  | false =>
    go_wp2_with (go_at_call 14; (with_reducible refine (KF.out A _ HA.out HB.out).mono ?_); rintro e w2 ⟨rfl, hb⟩)
    go_ret
    exact ⟨rfl, HA.out.trans (hb.out.mono HA.out.size)⟩
  | true =>
    cases q2 with
    | false =>
      go_wp2_with (first
        | (go_at_call 14; (with_reducible refine (KF.out A _ HA.out HB.out).mono ?_); rintro e w2 ⟨rfl, hb⟩)
        | (go_at_call 15; (with_reducible refine (KG.out A _ HA.out hb.out).mono ?_); rintro e w3 ⟨rfl, hb'⟩))
      go_ret
      exact ⟨rfl, HA.out.trans (hb'.out.mono HA.out.size)⟩
    | true =>
      go_wp2_with (first
        | (go_at_call 14; (with_reducible refine (KF.out A _ HA.out HB.out).mono ?_); rintro e w2 ⟨rfl, hb⟩)
        | (go_at_call 15; (with_reducible refine (KG.out A _ HA.out hb.out).mono ?_); rintro e w3 ⟨rfl, hb0⟩))
      clear y0 y1 y2 y3 y4 y5 y6
      obtain ⟨y0, y1, y2, y3, y4, y5, y6, -⟩ := HX.out w3 hb0.out
      have HD := Lib.hid hb0.out.drew
      go_region_held3 (fun w' => w'.cell? ⟨w.heap.size, 0, none⟩ = some (.int .i64 x1) ∧ w'.cell? ⟨w.heap.size, 1, none⟩ = some (.int .i64 x2) ∧ w'.cell? ⟨w.heap.size, 2, none⟩ = some (.int .i64 x3) ∧ w'.cell? ⟨w.heap.size, 3, none⟩ = some (.slice p x4 cap) ∧ w'.cell? ⟨w.heap.size + 1, 0, none⟩ = some (.int .i64 x.d) ∧ w'.cell? ⟨w.heap.size + 1, 1, none⟩ = some (.int .i64 x.f) ∧ w'.cell? ⟨w.heap.size + 1, 2, none⟩ = some (.int .i64 x.s) ∧ Hid (Below A.heap.size A w'))
        (first
          | with_reducible exact HX.out _ HD.out
          | with_reducible exact HX.out _ hb0.out
          | with_reducible exact HX.out _ hb6.out
          | with_reducible exact HX.out _ hb5.out
          | with_reducible exact HX.out _ hb4.out
          | with_reducible exact HX.out _ hb3.out
          | with_reducible exact HX.out _ hb2.out
          | with_reducible exact HX.out _ hb1.out
          | assumption | go_keep)
        (first
          | (go_at_call 16; with_reducible refine (K1.out A _ HA.out (held7h (by assumption))).mono ?_; rintro e w' ⟨rfl, hb1⟩)
          | (go_at_call 17; with_reducible refine (K2.out A _ HA.out (held7h (by assumption))).mono ?_; rintro e w' ⟨rfl, hb2⟩)
          | (go_at_call 18; with_reducible refine (K3.out A _ HA.out (held7h (by assumption))).mono ?_; rintro e w' ⟨rfl, hb3⟩)
          | (go_at_call 19; with_reducible refine (K4.out A _ HA.out (held7h (by assumption))).mono ?_; rintro e w' ⟨rfl, hb4⟩)
          | (go_at_call 20; with_reducible refine (K5.out A _ HA.out (held7h (by assumption))).mono ?_; rintro e w' ⟨rfl, hb5⟩)
          | (go_at_call 21; with_reducible refine (K6.out A _ HA.out (held7h (by assumption))).mono ?_; rintro e w' ⟨rfl, hb6⟩))
      all_goals
        go_wp2_with fail
        go_ret
        first
          | exact ⟨rfl, HA.out.trans (hb6.out.mono HA.out.size)⟩
          | exact ⟨rfl, HA.out.trans (hb5.out.mono HA.out.size)⟩
end Go.Proofs.YtabdgnigmlpeaaaGreatDoor
