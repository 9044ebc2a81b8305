/- readCondition; typing.Cond. -/
import Derived.Test.YtabdgnigmlpeaaaGreatDoorTRng2
namespace Go.Proofs.YtabdgnigmlpeaaaGreatDoor
open Go.RowKit

/-- One condition as the only element of a row. -/
theorem CdIn.one {w : World} {Q : Nat → Prop} {c : Cd} {p : Option Addr} {cap : Nat} (h : CdIn w Q c p cap) (k v n : Int) :
    CdIn (w.alloc (.cells #[.int .i64 c.k, .int .i64 c.v, .int .i64 c.n, .slice p c.ps.length cap] 40)) (fun b => Q b ∨ w.heap.size ≤ b) (.mk k v n [c]) (some ⟨w.heap.size, 0, none⟩) 1 := by
  have hB := (Below.refl w.heap.size w).alloc (Nat.le_refl _) (.cells #[.int .i64 c.k, .int .i64 c.v, .int .i64 c.n, .slice p c.ps.length cap] 40)
  refine .mk k v n [c] _ 1 w.heap.size 0 (fun _ => p) (fun _ => cap) (by simp) (by simp) (by simp) (fun h => by cases h) (fun _ => ⟨rfl, Or.inr (Nat.le_refl _), by simp⟩) (fun i hi => ?_) (fun i hi => ?_)
  · have : i = 0 := by simpa using hi
    subst this
    refine ⟨?_, ?_, ?_, ?_⟩ <;> simp [go_sem]
  · have : i = 0 := by simpa using hi
    subst this
    exact (h.bel hB).mono fun b hb => Or.inl hb
/-- What readCondition comes to: an error, or a form. -/
def ReadC (w : World) (E : Int) (f : Fm) (e : Ending) (w' : World) : Prop :=
  (E = 0 → ∃ t v, e = .returned (.tuple #[.iface t v, .int .i64 0]) ∧ FmIn w' (w.heap.size ≤ ·) f (.iface t v)) ∧ (E ≠ 0 → e = .returned (.tuple #[.nilIface, .int .i64 E])) ∧ Below w.heap.size w w'

set_option maxHeartbeats 4000000 in
theorem readCond_any {w : World} {Q : Nat → Prop} {c : Cd} {p : Option Addr} {cap : Nat} (h : CdIn w Q c p cap) :
    Calls Tryz.prog 47 #[cV c p cap] w (ReadC w (condE c) (formC c)) := by
  have hA := (Below.refl w.heap.size w).alloc (Nat.le_refl _) (.cells #[.int .i64 c.k, .int .i64 c.v, .int .i64 c.n, .slice p c.ps.length cap] 40)
  have hA2 := hA.alloc hA.size (.cells #[.int .i64 c.k, .int .i64 c.v, .int .i64 c.n, .slice p c.ps.length cap] 40)
  have h1 := (h.bel hA).one 0 0 0
  rw [World.size_alloc] at h1
  have hl := (limited_cond h1)
  have H1 : Hid (Calls Tryz.prog 103 #[.slice (some ⟨w.heap.size + 1, 0, none⟩) 1 1, .func (Fn.func 104) #[] #[], .int .i64 256] ((w.alloc (.cells #[.int .i64 c.k, .int .i64 c.v, .int .i64 c.n, .slice p c.ps.length cap] 40)).alloc (.cells #[.int .i64 c.k, .int .i64 c.v, .int .i64 c.n, .slice p c.ps.length cap] 40)) fun e w' => e = .returned (.bool (fitL 0 256 [c]).1) ∧ Below w.heap.size w w' ∧
      w'.cell? ⟨w.heap.size, 0, none⟩ = some (.int .i64 c.k) ∧ w'.cell? ⟨w.heap.size, 1, none⟩ = some (.int .i64 c.v) ∧ w'.cell? ⟨w.heap.size, 2, none⟩ = some (.int .i64 c.n) ∧ w'.cell? ⟨w.heap.size, 3, none⟩ = some (.slice p c.ps.length cap)) := Lib.hid (hl.mono fun e w' hr =>
    ⟨hr.1, hA2.trans (hr.2.mono hA2.size), keepc hr.2 (by simp [go_sem]), keepc hr.2 (by simp [go_sem]), keepc hr.2 (by simp [go_sem]), keepc hr.2 (by simp [go_sem])⟩)
  have H2 : Hid (∀ W, Below w.heap.size w W → Calls Tryz.prog 105 #[.agg #[.int .i64 c.k, .int .i64 c.v, .int .i64 c.n, .slice p c.ps.length cap]] W fun e w' => ∃ t v, e = .returned (.iface t v) ∧ FmIn w' (W.heap.size ≤ ·) (formC c) (.iface t v) ∧ Below W.heap.size W w') := Lib.hid fun W hb => cform_any h W hb
  clear h1 hA hA2 h hl
  have hmf : ∀ (fn : Fn) (first cap : Array Value) (w : World), (Instr.makeFunc fn first cap).run Tryz.prog w = .ok (.func fn first cap) w := fun _ _ _ _ => rfl
  unfold cV condE
  generalize formC c = f at *
  generalize (fitL 0 256 [c]).1 = q1 at *
  generalize c.k = x1 at *
  generalize c.v = x2 at *
  generalize c.n = x3 at *
  generalize c.ps.length = x4 at *
  cases q1 with
  | false =>
    simp only [if_true]
    go_enter Tryz.func47, Tryz.ntmps47
    go_wp2_with (go_at_call 103; (with_reducible refine H1.out.mono ?_); rintro e w1 ⟨rfl, hb, -⟩; have HB1 := Lib.hid hb; clear hb)
    go_ret2
    exact ⟨fun h => absurd h (by decide), fun _ => rfl, HB1.out⟩
  | true =>
    simp only [Bool.true_eq_false, if_false]
    obtain ⟨q2, hq2⟩ : ∃ q2, rngF f = q2 := ⟨_, rfl⟩
    rw [hq2]
    cases q2
    all_goals
      simp only [Bool.false_eq_true, if_false, if_true]
      have HQ2 := Lib.hid hq2
      clear hq2
      go_enter Tryz.func47, Tryz.ntmps47
      go_wp2_with fail
      go_at_call 103
      (with_reducible refine H1.out.mono ?_)
      rintro e w1 ⟨rfl, hb, c0, c1, c2, c3⟩
      have HB1 := Lib.hid hb
      clear hb H1
      go_wp2_with fail
      go_at_call 105
      (with_reducible refine (H2.out _ HB1.out).mono ?_)
      rintro e w2 ⟨t, v, rfl, hf, hb⟩
      have HB2 := Lib.hid (HB1.out.trans (hb.mono HB1.out.size))
      have HF : Hid (FmIn w2 (w.heap.size ≤ ·) f (.iface t v)) := Lib.hid (hf.mono fun b h => Nat.le_trans HB1.out.size h)
      have hx := rc_any _ f w2 _ hf
      clear hf hb H2 c0 c1 c2 c3
      unfold RC RPost at hx
      rw [HQ2.out] at hx
      rcases hx with ⟨a, he, hC⟩ | ⟨a, he, hC⟩ | ⟨a, he, hC⟩ | ⟨a, he, hC⟩ | ⟨a, he, hC⟩ | ⟨a, he, hC⟩ | ⟨a, he, hC⟩
      all_goals
        obtain ⟨rfl, rfl⟩ := Value.iface.inj he
        clear he
        have HC := Lib.hid hC
        clear hC HQ2
        go_wp2_with fail
        (with_reducible refine HC.out.mono ?_)
        rintro e w3 ⟨rfl, hb⟩
        have HB3 := Lib.hid (HB2.out.trans (hb.mono HB2.out.size))
        have HF3 := Lib.hid (HF.out.bel hb)
        clear hb
        go_wp2_with fail
        go_ret2
        first
          | exact ⟨fun h => absurd h (by decide), fun _ => rfl, HB3.out⟩
          | exact ⟨fun _ => ⟨_, _, rfl, HF3.out⟩, fun h => absurd rfl h, HB3.out⟩

/-- typing.Cond. -/
theorem tCond_any {w : World} {Q : Nat → Prop} {c : Cd} {p : Option Addr} {cap : Nat} (h : CdIn w Q c p cap) :
    Calls Tryz.prog 16 #[cV c p cap] w fun e w' => e = .returned (.int .i64 (condE c)) ∧ Below w.heap.size w w' := by
  have hA := (Below.refl w.heap.size w).alloc (Nat.le_refl _) (.cells #[.int .i64 c.k, .int .i64 c.v, .int .i64 c.n, .slice p c.ps.length cap] 40)
  have H := Lib.hid (readCond_any (h.bel hA))
  have HA := Lib.hid hA
  clear h hA
  unfold cV at H ⊢
  generalize condE c = E at *
  generalize formC c = f at *
  generalize c.k = x1 at *
  generalize c.v = x2 at *
  generalize c.n = x3 at *
  generalize c.ps.length = x4 at *
  by_cases hE : E = 0
  · subst hE
    go_enter Tryz.func16, Tryz.ntmps16
    go_wp2_with fail
    go_at_call 47
    (with_reducible refine H.out.mono ?_)
    rintro e w1 ⟨h1, -, hb⟩
    obtain ⟨t, v, rfl, -⟩ := h1 rfl
    have HB := Lib.hid (HA.out.trans (hb.mono HA.out.size))
    clear hb h1
    go_wp2_with fail
    go_ret
    exact ⟨rfl, HB.out⟩
  · have HE := Lib.hid hE
    clear hE
    go_enter Tryz.func16, Tryz.ntmps16
    go_wp2_with fail
    go_at_call 47
    (with_reducible refine H.out.mono ?_)
    rintro e w1 ⟨-, h1, hb⟩
    obtain rfl := h1 HE.out
    have HB := Lib.hid (HA.out.trans (hb.mono HA.out.size))
    clear hb h1
    go_wp2_with fail
    go_ret
    exact ⟨rfl, HB.out⟩
end Go.Proofs.YtabdgnigmlpeaaaGreatDoor
