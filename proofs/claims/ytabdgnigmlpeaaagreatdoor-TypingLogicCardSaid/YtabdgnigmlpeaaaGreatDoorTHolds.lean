/- typing.Holds. -/
import Derived.Test.YtabdgnigmlpeaaaGreatDoorTHold2
namespace Go.Proofs.YtabdgnigmlpeaaaGreatDoor
open Go.RowKit

/-- What Holds returns. -/
def holdsR (c : Cd) (x : En) : Bool × Int := if condE c ≠ 0 then (false, condE c) else if envE x ≠ 0 then (false, envE x) else (holdF x (formC c), 0)
theorem condE_rng {c : Cd} (h : condE c = 0) : rngF (formC c) = true := by
  unfold condE at h
  split at h
  · cases h
  · split at h
    · assumption
    · cases h
theorem envE_cases (x : En) : envE x = 0 ∨ envE x = 1 := by unfold envE; split <;> simp

set_option maxHeartbeats 4000000 in
theorem tHolds_any {w : World} {Q : Nat → Prop} {c : Cd} {p : Option Addr} {cap : Nat} (h : CdIn w Q c p cap) (x : En) :
    Calls Tryz.prog 24 #[cV c p cap, envV x] w fun e w' => e = .returned (.tuple #[.bool (holdsR c x).1, .int .i64 (holdsR c x).2]) ∧ Below w.heap.size w w' := by
  have hA := (Below.refl w.heap.size w).alloc (Nat.le_refl _) (.cells #[.int .i64 c.k, .int .i64 c.v, .int .i64 c.n, .slice p c.ps.length cap] 40)
  have hA2 := hA.alloc hA.size (.cells #[.int .i64 x.d, .int .i64 x.f, .int .i64 x.s] 42)
  have hE := EnvAt.new (w.alloc (.cells #[.int .i64 c.k, .int .i64 c.v, .int .i64 c.n, .slice p c.ps.length cap] 40)) x
  rw [World.size_alloc] at hE
  have hrc := readCond_any (h.bel hA2)
  have H : Hid (Calls Tryz.prog 47 #[cV c p cap] ((w.alloc (.cells #[.int .i64 c.k, .int .i64 c.v, .int .i64 c.n, .slice p c.ps.length cap] 40)).alloc (.cells #[.int .i64 x.d, .int .i64 x.f, .int .i64 x.s] 42)) fun e w' => ((condE c = 0 → ∃ t v, e = .returned (.tuple #[.iface t v, .int .i64 0]) ∧ FmIn w' (fun _ => True) (formC c) (.iface t v)) ∧ (condE c ≠ 0 → e = .returned (.tuple #[.nilIface, .int .i64 (condE c)]))) ∧ Below w.heap.size w w' ∧ EnvAt w' (w.heap.size + 1) x) := Lib.hid (hrc.mono fun e w' hr =>
    ⟨⟨fun h0 => by obtain ⟨t, v, h1, h2⟩ := hr.1 h0; exact ⟨t, v, h1, h2.mono fun _ _ => trivial⟩, hr.2.1⟩, hA2.trans (hr.2.2.mono hA2.size), hE.bel hr.2.2⟩)
  have HH : Hid (rngF (formC c) = true → ∀ W v, FmIn W (fun _ => True) (formC c) v → Calls Tryz.prog 54 #[v, envV x] W fun e w' => e = .returned (.bool (holdF x (formC c))) ∧ Below W.heap.size W w') := Lib.hid fun hr W v hf => hold_any x _ _ W v hr hf
  have HN := Lib.hid (fun W => env_any x W)
  have HR : Hid (condE c = 0 → rngF (formC c) = true) := Lib.hid condE_rng
  have HEC := Lib.hid (envE_cases x)
  clear hA hA2 hE hrc h
  unfold holdsR
  unfold cV envV at *
  generalize condE c = E at *
  generalize formC c = f at *
  generalize holdF x f = q at *
  generalize envE x = E2 at *
  generalize c.k = x1 at *
  generalize c.v = x2 at *
  generalize c.n = x3 at *
  generalize c.ps.length = x4 at *
  by_cases hE : E = 0
  · subst hE
    simp only [ne_eq, not_true, if_false]
    rcases HEC.out with rfl | rfl
    · simp only [not_true, if_false]
      go_enter Tryz.func24, Tryz.ntmps24
      go_wp2_with fail
      go_at_call 47
      (with_reducible refine H.out.mono ?_)
      rintro e w1 ⟨⟨h1, -⟩, hb, ⟨c0, c1, c2⟩⟩
      obtain ⟨t, v, rfl, hf⟩ := h1 (by trivial)
      have HB := Lib.hid hb
      have HF := Lib.hid hf
      clear hb h1 hf H
      go_wp2_with fail
      go_at_call 20
      (with_reducible refine (HN.out _).mono ?_)
      rintro e w2 ⟨rfl, hb⟩
      have HB2 := Lib.hid (HB.out.trans (hb.mono HB.out.size))
      have HF2 := Lib.hid (HF.out.bel hb)
      have d0 := keepc hb c0
      have d1 := keepc hb c1
      have d2 := keepc hb c2
      clear hb c0 c1 c2 HN
      go_wp2_with fail
      go_at_call 54
      (with_reducible refine (HH.out (HR.out (by trivial)) _ _ HF2.out).mono ?_)
      rintro e w3 ⟨rfl, hb⟩
      have HB3 := Lib.hid (HB2.out.trans (hb.mono HB2.out.size))
      clear hb
      go_wp2_with fail
      go_ret2
      exact ⟨rfl, HB3.out⟩
    · rw [if_pos (by decide)]
      go_enter Tryz.func24, Tryz.ntmps24
      go_wp2_with fail
      go_at_call 47
      (with_reducible refine H.out.mono ?_)
      rintro e w1 ⟨⟨h1, -⟩, hb, ⟨c0, c1, c2⟩⟩
      obtain ⟨t, v, rfl, hf⟩ := h1 (by trivial)
      have HB := Lib.hid hb
      clear hb h1 hf H
      go_wp2_with fail
      go_at_call 20
      (with_reducible refine (HN.out _).mono ?_)
      rintro e w2 ⟨rfl, hb⟩
      have HB2 := Lib.hid (HB.out.trans (hb.mono HB.out.size))
      clear hb c0 c1 c2 HN
      go_wp2_with fail
      go_ret2
      exact ⟨rfl, HB2.out⟩
  · rw [if_pos hE]
    have hb0 : (E != 0) = true := by simpa using hE
    have HE := Lib.hid hE
    clear hE
    go_enter Tryz.func24, Tryz.ntmps24
    go_wp2_with fail
    go_at_call 47
    (with_reducible refine H.out.mono ?_)
    rintro e w1 ⟨⟨-, h1⟩, hb, -⟩
    obtain rfl := h1 HE.out
    have HB := Lib.hid hb
    clear hb h1 H
    go_wp2_with fail
    go_ret2
    exact ⟨rfl, HB.out⟩
end Go.Proofs.YtabdgnigmlpeaaaGreatDoor
