/- holds, of all forms. -/
import Derived.Test.YtabdgnigmlpeaaaGreatDoorTHold
import Derived.Test.YtabdgnigmlpeaaaGreatDoorTReadS
import Derived.Deep.RegionHeld3
import Derived.Test.YtabdgnigmlpeaaaGreatDoorTRef4
import Derived.BigQuiet
import Derived.Deep.AppendLies
import Derived.Deep.RegionLaw
import Derived.Laws.AppendOwnNone
namespace Go.Proofs.YtabdgnigmlpeaaaGreatDoor
open Go.RowKit

set_option maxHeartbeats 1000000 in
theorem clos1_any (q : Bool) (y : Value) (x : En) (W : World) (B : Nat) (hE : EnvAt W B x) (h : Calls Tryz.prog 54 #[y, envV x] W fun e w' => e = .returned (.bool q) ∧ Below W.heap.size W w') :
    Calls Tryz.prog 119 #[y, .pointer (some ⟨B, 0, none⟩)] W fun e w' => e = .returned (.bool q) ∧ Below W.heap.size W w' := by
  obtain ⟨c0, c1, c2⟩ := hE
  have H := Lib.hid h
  clear h
  unfold envV at H
  obtain ⟨d, f, s⟩ := x
  simp only at *
  go_enter Tryz.func119, Tryz.ntmps119
  go_wp2_with (go_at_call 54; (with_reducible refine H.out.mono ?_); rintro e w1 ⟨rfl, hb⟩; have HB := Lib.hid hb; clear hb)
  go_ret
  exact ⟨rfl, HB.out⟩
set_option maxHeartbeats 1000000 in
theorem clos2_any (q : Bool) (y : Value) (x : En) (W : World) (B : Nat) (hE : EnvAt W B x) (h : Calls Tryz.prog 54 #[y, envV x] W fun e w' => e = .returned (.bool q) ∧ Below W.heap.size W w') :
    Calls Tryz.prog 121 #[y, .pointer (some ⟨B, 0, none⟩)] W fun e w' => e = .returned (.bool q) ∧ Below W.heap.size W w' := by
  obtain ⟨c0, c1, c2⟩ := hE
  have H := Lib.hid h
  clear h
  unfold envV at H
  obtain ⟨d, f, s⟩ := x
  simp only at *
  go_enter Tryz.func121, Tryz.ntmps121
  go_wp2_with (go_at_call 54; (with_reducible refine H.out.mono ?_); rintro e w1 ⟨rfl, hb⟩; have HB := Lib.hid hb; clear hb)
  go_ret
  exact ⟨rfl, HB.out⟩

/-- All forms of a list are asked, in order, by the closure. -/
theorem holdAll_any (l : List Fm) (p : Option Addr) (cap : Nat) (x : En) (W : World) (Q : Nat → Prop) (B : Nat) (hE : EnvAt W B x) (h : FsIn W Q l p cap) (hH : ∀ i (h : i < l.length) W' y, Below W.heap.size W W' → FmIn W' Q l[i] y → Calls Tryz.prog 54 #[y, envV x] W' fun e w' => e = .returned (.bool (holdF x l[i])) ∧ Below W'.heap.size W' w') :
    Calls Tryz.prog 118 #[.slice p l.length cap, .func (Fn.func 119) #[] #[.pointer (some ⟨B, 0, none⟩)]] W fun e w' => e = .returned (.bool (holdA x l)) ∧ Below W.heap.size W w' := by
  obtain ⟨b, off, hL, hAt⟩ := h
  have hV : ∀ j (h : j < l.length), W.cell? ⟨b, off + j, none⟩ = some ((W.cell? ⟨b, off + j, none⟩).getD undef) ∧ FmIn W Q l[j] ((W.cell? ⟨b, off + j, none⟩).getD undef) := fun j hj => by
    obtain ⟨y, h1, h2⟩ := FsAt.get l off hAt j hj
    rw [h1]
    exact ⟨rfl, h2⟩
  have hk : ∀ (s : Unit) W' W'', (fun (_ : Unit) W' => Below W.heap.size W W') s W' → Below W'.heap.size W' W'' → (fun (_ : Unit) W' => Below W.heap.size W W') s W'' := fun _ _ _ h1 h2 => h1.trans (h2.mono h1.size)
  have H := all_form (fun (s : Unit) f => (holdF x f, s)) (fun _ W' => Below W.heap.size W W') (fun _ => True) (Fn.func 119) #[] #[.pointer (some ⟨B, 0, none⟩)] (W.heap.size + 1) l (fun j => (W.cell? ⟨b, off + j, none⟩).getD undef) p b off cap
    (fun hne => (hL.hb (by simpa using hne)).1) hL.hl (fun s W' j hW hj => keepc hW (hV j hj).1) (fun _ _ _ _ _ => trivial)
    (all1_form (fun (s : Unit) f => (holdF x f, s)) (fun _ W' => Below W.heap.size W W') (fun _ => True) (W.heap.size + 1) 119 #[.pointer (some ⟨B, 0, none⟩)] (enters_of Tryz.func119 (by kernel_rfl) rfl) l (fun j => (W.cell? ⟨b, off + j, none⟩).getD undef) hk
      fun s W' j hj _ hW => (clos1_any (holdF x l[j]) _ x W' B (hE.bel hW) (hH j hj W' _ hW ((hV j hj).2.bel hW))).mono fun e w' hr => ⟨hr.1, hW.trans (hr.2.mono hW.size), Kp.bel hr.2⟩)
    hk () W (by omega) trivial (Below.refl _ _)
  rw [allS_pure, ← holdA_eq] at H
  exact H.mono fun e w' hr => ⟨hr.1, hr.2.1⟩
theorem holdOne_any (l : List Fm) (p : Option Addr) (cap : Nat) (x : En) (W : World) (Q : Nat → Prop) (B : Nat) (hE : EnvAt W B x) (h : FsIn W Q l p cap) (hH : ∀ i (h : i < l.length) W' y, Below W.heap.size W W' → FmIn W' Q l[i] y → Calls Tryz.prog 54 #[y, envV x] W' fun e w' => e = .returned (.bool (holdF x l[i])) ∧ Below W'.heap.size W' w') :
    Calls Tryz.prog 120 #[.slice p l.length cap, .func (Fn.func 121) #[] #[.pointer (some ⟨B, 0, none⟩)]] W fun e w' => e = .returned (.bool (holdO x l)) ∧ Below W.heap.size W w' := by
  obtain ⟨b, off, hL, hAt⟩ := h
  have hV : ∀ j (h : j < l.length), W.cell? ⟨b, off + j, none⟩ = some ((W.cell? ⟨b, off + j, none⟩).getD undef) ∧ FmIn W Q l[j] ((W.cell? ⟨b, off + j, none⟩).getD undef) := fun j hj => by
    obtain ⟨y, h1, h2⟩ := FsAt.get l off hAt j hj
    rw [h1]
    exact ⟨rfl, h2⟩
  have H := contains_form (fun (s : Unit) f => (holdF x f, s)) (fun _ W' => Below W.heap.size W W') (fun _ => True) 121 #[.pointer (some ⟨B, 0, none⟩)] (enters_of Tryz.func121 (by kernel_rfl) rfl) l (fun j => (W.cell? ⟨b, off + j, none⟩).getD undef) p b off cap
    (fun hne => (hL.hb (by simpa using hne)).1) hL.hl (fun s W' j hW hj => keepc hW (hV j hj).1) (fun _ _ _ _ _ => trivial)
    (fun s W' j hj _ hW => (clos2_any (holdF x l[j]) _ x W' B (hE.bel hW) (hH j hj W' _ hW ((hV j hj).2.bel hW))).mono fun e w' hr => ⟨hr.1, hW.trans (hr.2.mono hW.size)⟩)
    () W trivial (Below.refl _ _)
  rw [anyS_pure, ← holdO_eq] at H
  exact H

set_option maxHeartbeats 4000000 in
set_option maxRecDepth 100000 in
theorem hold_all (l : List Fm) (p : Option Addr) (cap : Nat) (x : En) (W : World) (Q : Nat → Prop) (h : FsIn W Q l p cap) (hH : ∀ i (h : i < l.length) W' y, Below W.heap.size W W' → FmIn W' Q l[i] y → Calls Tryz.prog 54 #[y, envV x] W' fun e w' => e = .returned (.bool (holdF x l[i])) ∧ Below W'.heap.size W' w') :
    Calls Tryz.prog 54 #[.iface 176 (.agg #[.slice p l.length cap]), envV x] W fun e w' => e = .returned (.bool (holdA x l)) ∧ Below W.heap.size W w' := by
  have hA := (Below.refl W.heap.size W).alloc (Nat.le_refl _) (.cells #[.int .i64 x.d, .int .i64 x.f, .int .i64 x.s] 42)
  have hA2 := hA.alloc hA.size (.cells #[.slice p l.length cap] 176)
  have hE := (EnvAt.new W x).bel ((Below.refl _ _).alloc (Nat.le_refl _) (.cells #[.slice p l.length cap] 176))
  have H := Lib.hid (holdAll_any l p cap x _ Q W.heap.size hE (h.bel hA2) fun i hi W' y hb hf => hH i hi W' y (hA2.trans (hb.mono hA2.size)) hf)
  have HA := Lib.hid hA2
  clear h hH hA hA2 hE
  unfold envV
  generalize holdA x l = q at *
  generalize l.length = n at *
  obtain ⟨d, f, s⟩ := x
  simp only at *
  have t_atLeast := ta_allOf_atLeast
  have t_allOf := ta_allOf_allOf
  have hmf : ∀ (fn : Fn) (first cap : Array Value) (w : World), (Instr.makeFunc fn first cap).run Tryz.prog w = .ok (.func fn first cap) w := fun _ _ _ _ => rfl
  go_enter Tryz.func54, Tryz.ntmps54
  go_wp2_with (go_at_call 118; (with_reducible refine H.out.mono ?_); rintro e w1 ⟨rfl, hb⟩; have HB := Lib.hid (HA.out.trans (hb.mono HA.out.size)); clear hb)
  go_ret
  exact ⟨rfl, HB.out⟩

set_option maxHeartbeats 4000000 in
set_option maxRecDepth 100000 in
theorem hold_one (l : List Fm) (p : Option Addr) (cap : Nat) (x : En) (W : World) (Q : Nat → Prop) (h : FsIn W Q l p cap) (hH : ∀ i (h : i < l.length) W' y, Below W.heap.size W W' → FmIn W' Q l[i] y → Calls Tryz.prog 54 #[y, envV x] W' fun e w' => e = .returned (.bool (holdF x l[i])) ∧ Below W'.heap.size W' w') :
    Calls Tryz.prog 54 #[.iface 179 (.agg #[.slice p l.length cap]), envV x] W fun e w' => e = .returned (.bool (holdO x l)) ∧ Below W.heap.size W w' := by
  have hA := (Below.refl W.heap.size W).alloc (Nat.le_refl _) (.cells #[.int .i64 x.d, .int .i64 x.f, .int .i64 x.s] 42)
  have hA2 := hA.alloc hA.size (.cells #[.slice p l.length cap] 179)
  have hE := (EnvAt.new W x).bel ((Below.refl _ _).alloc (Nat.le_refl _) (.cells #[.slice p l.length cap] 179))
  have H := Lib.hid (holdOne_any l p cap x _ Q W.heap.size hE (h.bel hA2) fun i hi W' y hb hf => hH i hi W' y (hA2.trans (hb.mono hA2.size)) hf)
  have HA := Lib.hid hA2
  clear h hH hA hA2 hE
  unfold envV
  generalize holdO x l = q at *
  generalize l.length = n at *
  obtain ⟨d, f, s⟩ := x
  simp only at *
  have t_atLeast := ta_oneOf_atLeast
  have t_allOf := ta_oneOf_allOf
  have t_oneOf := ta_oneOf_oneOf
  have hmf : ∀ (fn : Fn) (first cap : Array Value) (w : World), (Instr.makeFunc fn first cap).run Tryz.prog w = .ok (.func fn first cap) w := fun _ _ _ _ => rfl
  go_enter Tryz.func54, Tryz.ntmps54
  go_wp2_with (go_at_call 120; (with_reducible refine H.out.mono ?_); rintro e w1 ⟨rfl, hb⟩; have HB := Lib.hid (HA.out.trans (hb.mono HA.out.size)); clear hb)
  go_ret
  exact ⟨rfl, HB.out⟩

set_option maxHeartbeats 4000000 in
set_option maxRecDepth 100000 in
theorem hold_neg (q : Bool) (t : TypeId) (v : Value) (x : En) (W : World) (hH : ∀ W', Below W.heap.size W W' → Calls Tryz.prog 54 #[.iface t v, envV x] W' fun e w' => e = .returned (.bool q) ∧ Below W'.heap.size W' w') :
    Calls Tryz.prog 54 #[.iface 181 (.agg #[.iface t v]), envV x] W fun e w' => e = .returned (.bool (!q)) ∧ Below W.heap.size W w' := by
  have hA := (Below.refl W.heap.size W).alloc (Nat.le_refl _) (.cells #[.int .i64 x.d, .int .i64 x.f, .int .i64 x.s] 42)
  have hA2 := hA.alloc hA.size (.cells #[.iface t v] 181)
  have H := Lib.hid (hH _ hA2)
  have HA := Lib.hid hA2
  clear hH hA hA2
  unfold envV at *
  obtain ⟨d, f, s⟩ := x
  simp only at *
  have t_1 := ta_negation_atLeast
  have t_2 := ta_negation_allOf
  have t_3 := ta_negation_oneOf
  have t_4 := ta_negation_negation
  go_enter Tryz.func54, Tryz.ntmps54
  go_wp2_with (go_at_call 54; (with_reducible refine H.out.mono ?_); rintro e w1 ⟨rfl, hb⟩; have HB := Lib.hid (HA.out.trans (hb.mono HA.out.size)); clear hb)
  go_ret
  exact ⟨rfl, HB.out⟩

set_option maxHeartbeats 4000000 in
set_option maxRecDepth 100000 in
theorem hold_criterion (a : Array Value) (x : En) (W : World) : Calls Tryz.prog 54 #[.iface 167 (.agg a), envV x] W fun e w' => e = .returned (.bool false) ∧ Below W.heap.size W w' := by
  have HA := Lib.hid ((Below.refl W.heap.size W).alloc (Nat.le_refl _) (.cells #[.int .i64 x.d, .int .i64 x.f, .int .i64 x.s] 42))
  unfold envV at *
  obtain ⟨d, f, s⟩ := x
  simp only at *
  have t_1 := ta_criterion_atLeast
  have t_2 := ta_criterion_allOf
  have t_3 := ta_criterion_oneOf
  have t_4 := ta_criterion_negation
  go_enter Tryz.func54, Tryz.ntmps54
  go_wp2_with fail
  go_ret
  exact ⟨rfl, HA.out⟩

set_option maxHeartbeats 4000000 in
set_option maxRecDepth 100000 in
theorem hold_branch (a : Array Value) (x : En) (W : World) : Calls Tryz.prog 54 #[.iface 169 (.agg a), envV x] W fun e w' => e = .returned (.bool false) ∧ Below W.heap.size W w' := by
  have HA := Lib.hid ((Below.refl W.heap.size W).alloc (Nat.le_refl _) (.cells #[.int .i64 x.d, .int .i64 x.f, .int .i64 x.s] 42))
  unfold envV at *
  obtain ⟨d, f, s⟩ := x
  simp only at *
  have t_1 := ta_branch_atLeast
  have t_2 := ta_branch_allOf
  have t_3 := ta_branch_oneOf
  have t_4 := ta_branch_negation
  go_enter Tryz.func54, Tryz.ntmps54
  go_wp2_with fail
  go_ret
  exact ⟨rfl, HA.out⟩

set_option maxHeartbeats 4000000 in
set_option maxRecDepth 100000 in
theorem hold_misfit (a : Array Value) (x : En) (W : World) : Calls Tryz.prog 54 #[.iface 213 (.agg a), envV x] W fun e w' => e = .returned (.bool false) ∧ Below W.heap.size W w' := by
  have HA := Lib.hid ((Below.refl W.heap.size W).alloc (Nat.le_refl _) (.cells #[.int .i64 x.d, .int .i64 x.f, .int .i64 x.s] 42))
  unfold envV at *
  obtain ⟨d, f, s⟩ := x
  simp only at *
  have t_1 := ta_misfit_atLeast
  have t_2 := ta_misfit_allOf
  have t_3 := ta_misfit_oneOf
  have t_4 := ta_misfit_negation
  go_enter Tryz.func54, Tryz.ntmps54
  go_wp2_with fail
  go_ret
  exact ⟨rfl, HA.out⟩

mutual
theorem hold_any (x : En) (Q : Nat → Prop) : ∀ (f : Fm) (W : World) (y : Value), rngF f = true → FmIn W Q f y → Calls Tryz.prog 54 #[y, envV x] W fun e w' => e = .returned (.bool (holdF x f)) ∧ Below W.heap.size W w'
  | .atl v n, W, y, hr, h => by
    rw [FmIn] at h
    subst h
    rw [rngF, Bool.and_eq_true] at hr
    rw [holdF]
    exact hold_atl v n (by simpa using hr.1) x W
  | .all l, W, y, hr, h => by
    rw [FmIn] at h
    obtain ⟨p, cap, b, off, rfl, hL, hAt⟩ := h
    rw [rngF, Bool.and_eq_true] at hr
    rw [holdF]
    exact hold_all l p cap x W Q ⟨b, off, hL, hAt⟩ fun i hi W' y _ hf => holds_all x Q l hr.2 i hi W' y hf
  | .one l, W, y, hr, h => by
    rw [FmIn] at h
    obtain ⟨p, cap, b, off, rfl, hL, hAt⟩ := h
    rw [rngF, Bool.and_eq_true] at hr
    rw [holdF]
    exact hold_one l p cap x W Q ⟨b, off, hL, hAt⟩ fun i hi W' y _ hf => holds_all x Q l hr.2 i hi W' y hf
  | .neg f, W, y, hr, h => by
    rw [FmIn] at h
    obtain ⟨y, rfl, hf⟩ := h
    rw [rngF] at hr
    rw [holdF]
    obtain ⟨t, v, rfl⟩ := hf.iface
    exact hold_neg (holdF x f) t v x W fun W' hb => hold_any x Q f W' _ hr (hf.bel hb)
  | .crit b, W, y, _, h => by
    rw [FmIn] at h
    subst h
    rw [holdF]
    exact hold_criterion _ x W
  | .bran c th el, W, y, _, h => by
    rw [FmIn] at h
    obtain ⟨_, _, _, _, _, _, _, _, _, rfl, _⟩ := h
    rw [holdF]
    exact hold_branch _ x W
  | .mis, W, y, _, h => by
    rw [FmIn] at h
    subst h
    rw [holdF]
    exact hold_misfit _ x W
theorem holds_all (x : En) (Q : Nat → Prop) : ∀ (l : List Fm), rngFs l = true → ∀ (i : Nat) (h : i < l.length) (W : World) (y : Value), FmIn W Q l[i] y → Calls Tryz.prog 54 #[y, envV x] W fun e w' => e = .returned (.bool (holdF x l[i])) ∧ Below W.heap.size W w'
  | [], _, i, h, _, _, _ => absurd h (by simp)
  | f :: l, hr, 0, _, W, y, hf => hold_any x Q f W y (by rw [rngFs, Bool.and_eq_true] at hr; exact hr.1) hf
  | f :: l, hr, i + 1, h, W, y, hf => holds_all x Q l (by rw [rngFs, Bool.and_eq_true] at hr; exact hr.2) i (by simpa using h) W y hf
end
end Go.Proofs.YtabdgnigmlpeaaaGreatDoor
/- typing.Holds. -/
namespace Go.Proofs.YtabdgnigmlpeaaaGreatDoor
open Go.RowKit

/-- What Holds returns. -/
def holdsR (c : Cd) (x : En) : Bool × Int := if condE c ≠ 0 then (false, condE c) else if envE x ≠ 0 then (false, envE x) else (holdF x (formC c), 0)
theorem condE_rng {c : Cd} (h : condE c = 0) : rngF (formC c) = true := by
  unfold condE at h
  split at h
  · cases h
  · split at h
    · assumption
    · cases h
theorem envE_cases (x : En) : envE x = 0 ∨ envE x = 1 := by unfold envE; split <;> simp

set_option maxHeartbeats 4000000 in
theorem tHolds_any {w : World} {Q : Nat → Prop} {c : Cd} {p : Option Addr} {cap : Nat} (h : CdIn w Q c p cap) (x : En) :
    Calls Tryz.prog 24 #[cV c p cap, envV x] w fun e w' => e = .returned (.tuple #[.bool (holdsR c x).1, .int .i64 (holdsR c x).2]) ∧ Below w.heap.size w w' := by
  have hA := (Below.refl w.heap.size w).alloc (Nat.le_refl _) (.cells #[.int .i64 c.k, .int .i64 c.v, .int .i64 c.n, .slice p c.ps.length cap] 40)
  have hA2 := hA.alloc hA.size (.cells #[.int .i64 x.d, .int .i64 x.f, .int .i64 x.s] 42)
  have hE := EnvAt.new (w.alloc (.cells #[.int .i64 c.k, .int .i64 c.v, .int .i64 c.n, .slice p c.ps.length cap] 40)) x
  rw [World.size_alloc] at hE
  have hrc := readCond_any (h.bel hA2)
  have H : Hid (Calls Tryz.prog 47 #[cV c p cap] ((w.alloc (.cells #[.int .i64 c.k, .int .i64 c.v, .int .i64 c.n, .slice p c.ps.length cap] 40)).alloc (.cells #[.int .i64 x.d, .int .i64 x.f, .int .i64 x.s] 42)) fun e w' => ((condE c = 0 → ∃ t v, e = .returned (.tuple #[.iface t v, .int .i64 0]) ∧ FmIn w' (fun _ => True) (formC c) (.iface t v)) ∧ (condE c ≠ 0 → e = .returned (.tuple #[.nilIface, .int .i64 (condE c)]))) ∧ Below w.heap.size w w' ∧ EnvAt w' (w.heap.size + 1) x) := Lib.hid (hrc.mono fun e w' hr =>
    ⟨⟨fun h0 => by obtain ⟨t, v, h1, h2⟩ := hr.1 h0; exact ⟨t, v, h1, h2.mono fun _ _ => trivial⟩, hr.2.1⟩, hA2.trans (hr.2.2.mono hA2.size), hE.bel hr.2.2⟩)
  have HH : Hid (rngF (formC c) = true → ∀ W v, FmIn W (fun _ => True) (formC c) v → Calls Tryz.prog 54 #[v, envV x] W fun e w' => e = .returned (.bool (holdF x (formC c))) ∧ Below W.heap.size W w') := Lib.hid fun hr W v hf => hold_any x _ _ W v hr hf
  have HN := Lib.hid (fun W => env_any x W)
  have HR : Hid (condE c = 0 → rngF (formC c) = true) := Lib.hid condE_rng
  have HEC := Lib.hid (envE_cases x)
  clear hA hA2 hE hrc h
  unfold holdsR
  unfold cV envV at *
  generalize condE c = E at *
  generalize formC c = f at *
  generalize holdF x f = q at *
  generalize envE x = E2 at *
  generalize c.k = x1 at *
  generalize c.v = x2 at *
  generalize c.n = x3 at *
  generalize c.ps.length = x4 at *
  by_cases hE : E = 0
  · subst hE
    simp only [ne_eq, not_true, if_false]
    rcases HEC.out with rfl | rfl
    · simp only [not_true, if_false]
      go_enter Tryz.func24, Tryz.ntmps24
      go_wp2_with fail
      go_at_call 47
      (with_reducible refine H.out.mono ?_)
      rintro e w1 ⟨⟨h1, -⟩, hb, ⟨c0, c1, c2⟩⟩
      obtain ⟨t, v, rfl, hf⟩ := h1 (by trivial)
      have HB := Lib.hid hb
      have HF := Lib.hid hf
      clear hb h1 hf H
      go_wp2_with fail
      go_at_call 20
      (with_reducible refine (HN.out _).mono ?_)
      rintro e w2 ⟨rfl, hb⟩
      have HB2 := Lib.hid (HB.out.trans (hb.mono HB.out.size))
      have HF2 := Lib.hid (HF.out.bel hb)
      have d0 := keepc hb c0
      have d1 := keepc hb c1
      have d2 := keepc hb c2
      clear hb c0 c1 c2 HN
      go_wp2_with fail
      go_at_call 54
      (with_reducible refine (HH.out (HR.out (by trivial)) _ _ HF2.out).mono ?_)
      rintro e w3 ⟨rfl, hb⟩
      have HB3 := Lib.hid (HB2.out.trans (hb.mono HB2.out.size))
      clear hb
      go_wp2_with fail
      go_ret2
      exact ⟨rfl, HB3.out⟩
    · rw [if_pos (by decide)]
      go_enter Tryz.func24, Tryz.ntmps24
      go_wp2_with fail
      go_at_call 47
      (with_reducible refine H.out.mono ?_)
      rintro e w1 ⟨⟨h1, -⟩, hb, ⟨c0, c1, c2⟩⟩
      obtain ⟨t, v, rfl, hf⟩ := h1 (by trivial)
      have HB := Lib.hid hb
      clear hb h1 hf H
      go_wp2_with fail
      go_at_call 20
      (with_reducible refine (HN.out _).mono ?_)
      rintro e w2 ⟨rfl, hb⟩
      have HB2 := Lib.hid (HB.out.trans (hb.mono HB.out.size))
      clear hb c0 c1 c2 HN
      go_wp2_with fail
      go_ret2
      exact ⟨rfl, HB2.out⟩
  · rw [if_pos hE]
    have hb0 : (E != 0) = true := by simpa using hE
    have HE := Lib.hid hE
    clear hE
    go_enter Tryz.func24, Tryz.ntmps24
    go_wp2_with fail
    go_at_call 47
    (with_reducible refine H.out.mono ?_)
    rintro e w1 ⟨⟨-, h1⟩, hb, -⟩
    obtain rfl := h1 HE.out
    have HB := Lib.hid hb
    clear hb h1 H
    go_wp2_with fail
    go_ret2
    exact ⟨rfl, HB.out⟩
end Go.Proofs.YtabdgnigmlpeaaaGreatDoor
/- A row of numbers that the call itself makes; slices.Contains; follows. -/
namespace Go.Proofs.YtabdgnigmlpeaaaGreatDoor
open Go.RowKit

mutual
/-- How many criteria are named. -/
def nF : Fm → Nat
  | .crit _ => 1
  | .bran _ th el => nFs th + nFs el
  | .atl _ _ => 0
  | .all _ => 0
  | .one _ => 0
  | .neg _ => 0
  | .mis => 0
def nFs : List Fm → Nat
  | [] => 0
  | f :: l => nF f + nFs l
end
mutual
/-- The form of a valid step. -/
def stepF : Fm → Bool
  | .crit _ => true
  | .bran c th el => rngF c && (stepFs th && stepFs el)
  | .atl _ _ => false
  | .all _ => false
  | .one _ => false
  | .neg _ => false
  | .mis => false
def stepFs : List Fm → Bool
  | [] => true
  | f :: l => stepF f && stepFs l
end
mutual
theorem appF_len (x : En) : ∀ (f : Fm) (b : List Int), (appF x b f).length ≤ b.length + nF f
  | .crit n, b => by rw [appF, nF]; split <;> simp
  | .bran c th el, b => by
    rw [appF, nF]
    have h1 := appFs_len x th b
    have h2 := appFs_len x el b
    split <;> omega
  | .atl _ _, b => by rw [appF, nF] <;> simp
  | .all _, b => by rw [appF, nF] <;> simp
  | .one _, b => by rw [appF, nF] <;> simp
  | .neg _, b => by rw [appF, nF] <;> simp
  | .mis, b => by rw [appF, nF] <;> simp
theorem appFs_len (x : En) : ∀ (l : List Fm) (b : List Int), (appFs x b l).length ≤ b.length + nFs l
  | [], b => by rw [appFs, nFs]; simp
  | f :: l, b => by
    rw [appFs, nFs]
    have h1 := appF_len x f b
    have h2 := appFs_len x l (appF x b f)
    omega
end
mutual
theorem nF_formS : ∀ s : St, nF (formS s) ≤ szS s
  | .mk k b c th el => by
    have h1 := nFs_formSs th
    have h2 := nFs_formSs el
    rw [formS, szS]
    split
    · rw [nF]; omega
    · split
      · rw [nF]; omega
      · rw [nF]; omega
theorem nFs_formSs : ∀ l : List St, nFs (formSs l) ≤ szSs l
  | [] => by rw [formSs, nFs, szSs]; exact Nat.le_refl _
  | s :: l => by rw [formSs, nFs, szSs]; have := nF_formS s; have := nFs_formSs l; omega
end
mutual
theorem stepF_formS : ∀ s : St, rngF (formS s) = true → stepF (formS s) = true
  | .mk k b c th el, h => by
    rw [formS] at h ⊢
    split at h
    · rename_i h1; rw [if_pos h1, stepF]
    · rename_i h1
      rw [if_neg h1]
      split at h
      · rename_i h2
        rw [if_pos h2, stepF]
        rw [rngF, Bool.and_eq_true, Bool.and_eq_true, Bool.and_eq_true] at h
        rw [h.1.1, stepFs_formSs th h.1.2.2, stepFs_formSs el h.2]
        rfl
      · rw [rngF] at h; cases h
theorem stepFs_formSs : ∀ l : List St, rngFs (formSs l) = true → stepFs (formSs l) = true
  | [], _ => by rw [formSs, stepFs]
  | s :: l, h => by
    rw [formSs, rngFs, Bool.and_eq_true] at h
    rw [formSs, stepFs, stepF_formS s h.1, stepFs_formSs l h.2]
    rfl
end
theorem appFs_append (x : En) : ∀ (a b : List Fm) (l : List Int), appFs x l (a ++ b) = appFs x (appFs x l a) b
  | [], b, l => by rw [List.nil_append, appFs]
  | f :: a, b, l => by rw [List.cons_append, appFs, appFs, appFs_append x a b]
theorem appFs_take (x : En) (fs : List Fm) (l : List Int) (j : Nat) (h : j < fs.length) : appFs x l (fs.take (j + 1)) = appF x (appFs x l (fs.take j)) fs[j] := by
  rw [List.take_succ_eq_append_getElem h, appFs_append, appFs, appFs]
theorem nFs_take (fs : List Fm) (j : Nat) (h : j < fs.length) : nFs (fs.take j) + nF fs[j] ≤ nFs fs := by
  have ha : ∀ a b : List Fm, nFs (a ++ b) = nFs a + nFs b := fun a b => by
    induction a with
    | nil => rw [List.nil_append, nFs]; omega
    | cons f a ih => rw [List.cons_append, nFs, nFs, ih]; omega
  have := congrArg nFs (List.take_append_drop (j + 1) fs)
  rw [ha, List.take_succ_eq_append_getElem h, ha, nFs, nFs] at this
  omega
theorem stepFs_get : ∀ (l : List Fm) (i : Nat) (h : i < l.length), stepFs l = true → stepF l[i] = true
  | [], i, h, _ => absurd h (by simp)
  | f :: l, 0, _, hs => by rw [stepFs, Bool.and_eq_true] at hs; exact hs.1
  | f :: l, i + 1, h, hs => by rw [stepFs, Bool.and_eq_true] at hs; exact stepFs_get l i (by simpa using h) hs.2

def rowV (l : List Int) : List Value := l.map (Value.int .i64)
theorem Tryz.infoI : (Tryz.prog.info? 3).map (fun i => (i.zero, i.size, i.bytes)) = some (some (.int .i64 0), 1, 8) := by kernel_rfl
/-- The row val is the call's own, from block B on, and holds the numbers l. -/
def OwnI (w : World) (B : Nat) (val : Value) (l : List Int) : Prop := w.ownsRow B 3 1 val l.length (rowV l)
theorem OwnI.lt {w : World} {B : Nat} {val : Value} {l : List Int} (h : OwnI w B val l) : ∀ k, val.ownBlock = some k → B ≤ k ∧ k < w.heap.size := World.ownsRow.lt h
theorem OwnI.bel {w w' : World} {B : Nat} {val : Value} {l : List Int} (h : OwnI w B val l) (hb : Below w.heap.size w w') : OwnI w' B val l := by
  refine ⟨h.1, h.2.imp id ?_⟩
  rintro ⟨g, cap, cur, rfl, a, b, c⟩
  exact ⟨g, cap, cur, rfl, a, by rw [hb.block g ((Array.getElem?_eq_some_iff.1 b).1)]; exact b, c⟩
/-- What the row is as a value. -/
theorem OwnI.reads {w : World} {B : Nat} {val : Value} {l : List Int} (h : OwnI w B val l) (hl : l.length ≤ 1000000) :
    ∃ p cap b, val = .slice p l.length cap ∧ (l ≠ [] → p = some ⟨b, 0, none⟩) ∧ (∀ i (h : i < l.length), w.cell? ⟨b, i, none⟩ = some (.int .i64 l[i])) ∧ l.length ≤ cap ∧ cap ≤ 9223372036854775807 := by
  rcases h.2 with ⟨hv, hn0⟩ | ⟨g, cap, cur, hv, hB, hg, hc, hm, hsz, ht⟩
  · obtain rfl : l = [] := List.length_eq_zero_iff.1 hn0
    exact ⟨none, 0, 0, hv, fun h => absurd rfl h, fun i h => by simp at h, by simp, by simp⟩
  · refine ⟨_, cap, g, hv, fun _ => rfl, fun i hi => ?_, hc, by unfold maxLen at hm; omega⟩
    rw [cell_of_row w g i cur _ (0, 0) hg]
    have hu : (rowV l)[i]? = some (.int .i64 l[i]) := by simp [rowV, hi]
    rw [← ht, List.getElem?_take] at hu
    split at hu
    · simpa using hu
    · cases hu
theorem wpList_pushI {ops : Array Oper} {rest : List Oper} {o : Oper} {a : Act} {w : World} {K : Exit → Act → World → Prop} (hgd : o.guard = none) (s x : Operand)
    (ho : o.op = .call { callee := .builtin .append, args := #[s, x], argTypes := #[49, 49] })
    (B : Nat) (val : Value) (l : List Int) (hown : OwnI w B val l) (hs : a.eval s = val) (n : Int) (c H : Nat) (hH : w.heap.size = H) (hx : a.eval x = .slice (some ⟨H, 0, none⟩) 1 c) (hn : l.length ≤ 1000000) (hB : B ≤ w.heap.size)
    (h : ∀ g cap' w', OwnI w' B (.slice (some ⟨g, 0, none⟩) (l.length + 1) cap') (l ++ [n]) → w.grownBy w' val.ownBlock → (val.ownBlock = some g ∨ w.heap.size ≤ g) → wpList Tryz.prog ops K rest (a.put o.dst (.slice (some ⟨g, 0, none⟩) (l.length + 1) cap')) w') :
    wpList Tryz.prog ops K (o :: rest) a (w.alloc (.cells #[.int .i64 n] 3)) := by
  subst hH
  obtain ⟨i0, hi, hz0, hz1, hz2⟩ := info_parts Tryz.infoI
  have hcells : ∀ j u, ([.int .i64 n] : List Value)[j]? = some u → (w.alloc (.cells #[.int .i64 n] 3)).cell? ((⟨w.heap.size, 0, none⟩ : Addr).add j) = some u := by
    intro j u hj
    match j, hj with
    | 0, hj => simp at hj; subst hj; simp [Addr.add]
    | j + 1, hj => simp at hj
  refine wpList_append_lies _ hgd s x 49 ho B 3 i0 _ 1 8 Tryz.underlying49 hi hz0 hz1 hz2 rfl (by decide) val l.length (rowV l) hs (World.ownsRow.alloc hown _) ⟨w.heap.size, 0, none⟩ 1 c _ hx rfl hcells (by simp [Value.oneCell']) (by decide) (by unfold maxLen; omega) (by omega) (by simp; omega) (w.heap.size + 1) (by simp) ?_
  intro g cap' w' hown' hg hat hlt
  have hg' : w.grownBy w' val.ownBlock := by
    refine ⟨hg.os, hg.tape, hg.output, by have := hg.size; simp at this; omega, fun k hk hne => ?_⟩
    exact (hg.block k (by simp; omega) hne).trans (by rw [((Below.refl w.heap.size w).alloc (Nat.le_refl _) _).block k hk])
  refine h g cap' w' ?_ hg' (hat.imp id fun h => by omega)
  unfold OwnI
  rw [List.length_append]
  have : rowV (l ++ [n]) = rowV l ++ [.int .i64 n] := by simp [rowV]
  rw [this]
  exact hown'

set_option maxHeartbeats 2000000 in
theorem indexI_any (l : List Int) (n : Int) (p : Option Addr) (b cap : Nat) (w : World) (hl : l.length ≤ 1000000) (hp : l ≠ [] → p = some ⟨b, 0, none⟩) (hc : ∀ i (h : i < l.length), w.cell? ⟨b, i, none⟩ = some (.int .i64 l[i])) :
    Calls Tryz.prog 178 #[.slice p l.length cap, .int .i64 n] w fun e w' => FoundS (l.contains n) e ∧ w' = w := by
  have HC := Lib.hid hc
  have HP := Lib.hid hp
  have H0 : Hid (l.contains n = (l.drop 0).contains n) := Lib.hid (by rw [List.drop_zero])
  clear hc hp
  obtain ⟨T, hT⟩ : ∃ T, l.contains n = T := ⟨_, rfl⟩
  rw [hT] at H0 ⊢
  clear hT
  go_enter Tryz.func178, Tryz.ntmps178
  go_wp2_with fail
  go_loopw [5, 8] (fun _ v wr => ∃ j : Nat, j ≤ l.length ∧ v = .int .i64 j ∧ Hid (T = (l.drop j).contains n) ∧ Hid (wr = w)) (fun _ v _ => l.length - (intOf v).toNat)
  case atStart => exact ⟨0, Nat.zero_le _, rfl, H0, Lib.hid rfl⟩
  case round =>
    obtain ⟨j, hj, rfl, HI, HW⟩ := hrel
    obtain rfl := HW.out
    clear H0 HW
    by_cases hlt : j < l.length
    · have hji : (j : Int) < (l.length : Int) := by omega
      obtain rfl := HP.out (by rintro rfl; simp at hlt)
      have y0 := HC.out j hlt
      have hd := (List.getElem_cons_drop hlt).symm
      by_cases he : n = l[j]
      · have hb : (n == l[j]) = true := by simpa using he
        have hT : T = true := by rw [HI.out, hd, List.contains_cons, hb]; rfl
        subst hT
        clear HI HC HP hd he
        generalize l[j] = y at *
        go_wp2_with fail
        go_ret
        exact ⟨⟨j, rfl, by simp⟩, rfl⟩
      · have hb : (n == l[j]) = false := by simpa using he
        have HI2 : Hid (T = (l.drop (j + 1)).contains n) := Lib.hid (by rw [HI.out, hd, List.contains_cons, hb]; rfl)
        clear HI HC HP hd he
        generalize l[j] = y at *
        go_wp2_with fail
        go_round
        case rel => exact ⟨j + 1, by omega, by go_num, HI2, Lib.hid (by trivial)⟩
        case measure => simp [intOf]; omega
    · have hji : ¬ (j : Int) < (l.length : Int) := by omega
      have hT : T = false := by rw [HI.out, List.drop_of_length_le (by omega)]; rfl
      subst hT
      clear HI HC HP
      go_wp2_with fail
      go_ret
      exact ⟨⟨-1, rfl, by simp⟩, rfl⟩
theorem containsI_any (l : List Int) (n : Int) (p : Option Addr) (b cap : Nat) (w : World) (hl : l.length ≤ 1000000) (hp : l ≠ [] → p = some ⟨b, 0, none⟩) (hc : ∀ i (h : i < l.length), w.cell? ⟨b, i, none⟩ = some (.int .i64 l[i])) :
    Calls Tryz.prog 114 #[.slice p l.length cap, .int .i64 n] w fun e w' => e = .returned (.bool (l.contains n)) ∧ w' = w := by
  have H := Lib.hid (indexI_any l n p b cap w hl hp hc)
  clear hp hc hl
  generalize l.contains n = q at *
  generalize l.length = m at *
  go_enter Tryz.func114, Tryz.ntmps114
  go_wp2_with (go_at_call 178; (with_reducible refine H.out.mono ?_); rintro e w1 ⟨⟨r, rfl, h⟩, rfl⟩; have H1 := Lib.hid h; clear h)
  all_goals
    go_ret
    exact ⟨ret_bool (by first | exact H1.out | (rw [← H1.out]; simp; try omega)), rfl⟩

set_option maxHeartbeats 4000000 in
set_option maxRecDepth 100000 in
theorem follows_any (c : Fm) (y : Value) (p p2 : Option Addr) (n n2 cap cap2 : Nat) (x : En) (W : World) (Q : Nat → Prop) (hr : rngF c = true) (hy : FmIn W Q c y) :
    Calls Tryz.prog 115 #[.agg #[y, .slice p n cap, .slice p2 n2 cap2], envV x] W fun e w' => e = .returned (if holdF x c = true then .slice p n cap else .slice p2 n2 cap2) ∧ Below W.heap.size W w' := by
  obtain ⟨t, v, rfl⟩ := hy.iface
  have hA := (Below.refl W.heap.size W).alloc (Nat.le_refl _) (.cells #[.iface t v, .slice p n cap, .slice p2 n2 cap2] 169)
  have hA2 := hA.alloc hA.size (.cells #[.int .i64 x.d, .int .i64 x.f, .int .i64 x.s] 42)
  have H := Lib.hid (hold_any x Q c _ _ hr (hy.bel hA2))
  have HA := Lib.hid hA2
  clear hr hy hA hA2
  unfold envV at *
  generalize holdF x c = q at *
  obtain ⟨d, f, s⟩ := x
  simp only at *
  cases q
  all_goals
    simp only [Bool.false_eq_true, if_false, if_true]
    go_enter Tryz.func115, Tryz.ntmps115
    go_wp2_with fail
    go_at_call 54
    (with_reducible refine H.out.mono ?_)
    rintro e w1 ⟨rfl, hb⟩
    have HB := Lib.hid (HA.out.trans (hb.mono HA.out.size))
    have c1 : w1.cell? ⟨W.heap.size, 1, none⟩ = some (.slice p n cap) := keepc hb (by simp [go_sem])
    have c2 : w1.cell? ⟨W.heap.size, 2, none⟩ = some (.slice p2 n2 cap2) := keepc hb (by simp [go_sem])
    clear hb
    go_wp2_with fail
    go_ret
    exact ⟨rfl, HB.out⟩
end Go.Proofs.YtabdgnigmlpeaaaGreatDoor
/- applied. -/
namespace Go.Proofs.YtabdgnigmlpeaaaGreatDoor
open Go.RowKit

theorem gr_bel {w w' : World} (o : Option Nat) (hb : Below w.heap.size w w') : w.grownBy w' o := ⟨hb.os, hb.tape, hb.output, hb.size, fun k hk _ => hb.block k hk⟩
theorem gr_then {W1 wr wa w5 : World} {o v : Option Nat} (h : W1.grownBy wr o) (hv : v = o ∨ ∀ k, v = some k → W1.heap.size ≤ k) (hb : wr.heap.size ≤ wa.heap.size ∧ ∀ k, k < wr.heap.size → some k ≠ v → wa.heap[k]? = wr.heap[k]?) (ho : wa.os = wr.os ∧ wa.tape = wr.tape ∧ wa.output = wr.output) (hg : wa.grownBy w5 v) : W1.grownBy w5 o := by
  refine ⟨hg.os.trans (ho.1.trans h.os), hg.tape.trans (ho.2.1.trans h.tape), hg.output.trans (ho.2.2.trans h.output), Nat.le_trans h.size (Nat.le_trans hb.1 hg.size), fun k hk hne => ?_⟩
  have hkv : some k ≠ v := fun e => by
    rcases hv with h1 | h1
    · exact hne (e.trans h1)
    · have := h1 k e.symm; omega
  have hk2 : k < wr.heap.size := Nat.lt_of_lt_of_le hk h.size
  exact ((hg.block k (Nat.lt_of_lt_of_le hk2 hb.1) hkv).trans (hb.2 k hk2 hkv)).trans (h.block k hk hne)
theorem gr_two {wr wa w5 : World} {v : Option Nat} (h : wr.grownBy wa v) (hg : wa.grownBy w5 v) : wr.grownBy w5 v := ⟨hg.os.trans h.os, hg.tape.trans h.tape, hg.output.trans h.output, Nat.le_trans h.size hg.size, fun k hk hne => (hg.block k (Nat.lt_of_lt_of_le hk h.size) hne).trans (h.block k hk hne)⟩
/-- What applied comes to. -/
def AppR (W : World) (B : Nat) (val : Value) (L : List Int) (e : Ending) (w' : World) : Prop :=
  ∃ val', e = .returned val' ∧ OwnI w' B val' L ∧ W.grownBy w' val.ownBlock ∧ (val'.ownBlock = val.ownBlock ∨ ∀ k, val'.ownBlock = some k → W.heap.size ≤ k)
/-- applied, of the forms fs. -/
def AppAt (x : En) (Q : Nat → Prop) (fs : List Fm) : Prop :=
  ∀ (W : World) (B : Nat) (val : Value) (l : List Int) (p : Option Addr) (cap : Nat), (∀ b, Q b → b < B) → B ≤ W.heap.size → OwnI W B val l → l.length + nFs fs ≤ 1000000 → FsIn W Q fs p cap →
    Calls Tryz.prog 52 #[val, .slice p fs.length cap, envV x] W (AppR W B val (appFs x l fs))
/-- What stands in the loop of applied; W is the world behind the laying of the environment. -/
structure ASt (W wr : World) (B : Nat) (o : Option Nat) (v : Value) (L : List Int) : Prop where
  own : OwnI wr B v L
  gr : W.grownBy wr o
  at' : v.ownBlock = o ∨ ∀ k, v.ownBlock = some k → W.heap.size ≤ k
theorem ASt.step {W wr wa w5 : World} {B : Nat} {o : Option Nat} {v v5 : Value} {L L5 : List Int} (h : ASt W wr B o v L) (hb : Below wr.heap.size wr wa) (ho : OwnI w5 B v5 L5) (hg : wa.grownBy w5 v.ownBlock) (hat : v5.ownBlock = v.ownBlock ∨ ∀ k, v5.ownBlock = some k → wa.heap.size ≤ k) : ASt W w5 B o v5 L5 := by
  refine ⟨ho, gr_then h.gr h.at' ⟨hb.size, fun k hk _ => hb.block k hk⟩ ⟨hb.os, hb.tape, hb.output⟩ hg, ?_⟩
  rcases hat with h1 | h1
  · rw [h1]; exact h.at'
  · exact .inr fun k hk => Nat.le_trans h.gr.size (Nat.le_trans hb.size (h1 k hk))
theorem ASt.step2 {W wr w1 w5 : World} {B : Nat} {o : Option Nat} {v v5 : Value} {L L5 : List Int} (h : ASt W wr B o v L) (hb : wr.grownBy w1 v.ownBlock) (ho : OwnI w5 B v5 L5) (hg : w1.grownBy w5 v.ownBlock) (hat : v5.ownBlock = v.ownBlock ∨ ∀ k, v5.ownBlock = some k → w1.heap.size ≤ k) : ASt W w5 B o v5 L5 := by
  refine ⟨ho, gr_then h.gr h.at' ⟨hb.size, hb.block⟩ ⟨hb.os, hb.tape, hb.output⟩ hg, ?_⟩
  rcases hat with h1 | h1
  · rw [h1]; exact h.at'
  · exact .inr fun k hk => Nat.le_trans h.gr.size (Nat.le_trans hb.size (h1 k hk))
theorem OwnI.shape {w : World} {B : Nat} {v : Value} {l : List Int} (h : OwnI w B v l) : ∃ p cap, v = .slice p l.length cap := by
  rcases h.2 with ⟨hv, hn0⟩ | ⟨g, cap, cur, hv, _⟩
  · rw [hn0]; exact ⟨_, _, hv⟩
  · exact ⟨_, _, hv⟩
theorem keepg {w w' : World} {b o : Nat} {v : Value} {r : Option Nat} (hg : w.grownBy w' r) (hne : some b ≠ r) (h : w.cell? ⟨b, o, none⟩ = some v) : w'.cell? ⟨b, o, none⟩ = some v := hg.cell h hne
theorem held6h {A B C D E F G : Prop} (h : A ∧ B ∧ C ∧ D ∧ E ∧ F ∧ Hid G) : G := h.2.2.2.2.2.2.out

theorem own_at {o : Option Nat} {g n c sz : Nat} (h : o = some g ∨ sz ≤ g) : (Value.slice (some ⟨g, 0, none⟩) n c).ownBlock = o ∨ ∀ k, (Value.slice (some ⟨g, 0, none⟩) n c).ownBlock = some k → sz ≤ k := by
  have e : (Value.slice (some ⟨g, 0, none⟩) n c).ownBlock = some g := by simp [Value.ownBlock]
  rw [e]
  rcases h with h | h
  · exact .inl h.symm
  · exact .inr fun k hk => by cases hk; exact h
set_option maxHeartbeats 16000000 in
set_option maxRecDepth 100000 in
theorem applied_loop (x : En) (Q : Nat → Prop) (fs : List Fm) (hstep : stepFs fs = true) (hth : ∀ i (h : i < fs.length) c th el, fs[i] = .bran c th el → AppAt x Q th ∧ AppAt x Q el) : AppAt x Q fs := by
  intro W B val l p cap hQB hB hown hlen hF
  obtain ⟨b, off, hL, hAt⟩ := hF
  have hA := (Below.refl W.heap.size W).alloc (Nat.le_refl _) (.cells #[.int .i64 x.d, .int .i64 x.f, .int .i64 x.s] 42)
  have hE := EnvAt.new W x
  have hownlt := hown.lt
  have H0 : Hid (ASt (W.alloc (.cells #[.int .i64 x.d, .int .i64 x.f, .int .i64 x.s] 42)) (W.alloc (.cells #[.int .i64 x.d, .int .i64 x.f, .int .i64 x.s] 42)) B val.ownBlock val (appFs x l (fs.take 0))) := Lib.hid ⟨by rw [List.take_zero, appFs]; exact hown.bel hA, World.grownBy.refl _ _, .inl rfl⟩
  have HGA := Lib.hid (gr_bel val.ownBlock hA)
  have HEv : Hid (∀ wr, (W.alloc (.cells #[.int .i64 x.d, .int .i64 x.f, .int .i64 x.s] 42)).grownBy wr val.ownBlock → wr.cell? ⟨W.heap.size, 0, none⟩ = some (.int .i64 x.d) ∧ wr.cell? ⟨W.heap.size, 1, none⟩ = some (.int .i64 x.f) ∧ wr.cell? ⟨W.heap.size, 2, none⟩ = some (.int .i64 x.s)) := Lib.hid fun wr hg => by
    have hne : some W.heap.size ≠ val.ownBlock := fun e => by have := (hownlt _ e.symm).2; omega
    exact ⟨keepg hg hne hE.c0, keepg hg hne hE.c1, keepg hg hne hE.c2⟩
  have HFm : Hid (∀ wr, (W.alloc (.cells #[.int .i64 x.d, .int .i64 x.f, .int .i64 x.s] 42)).grownBy wr val.ownBlock → ∀ i (h : i < fs.length), ∃ y, p = some ⟨b, off, none⟩ ∧ wr.cell? ⟨b, off + i, none⟩ = some y ∧ FmIn wr Q fs[i] y) := Lib.hid fun wr hg i hi => by
    obtain ⟨y, h1, h2⟩ := FsAt.get fs off hAt i hi
    have hne : fs.length ≠ 0 := by omega
    have hqb := (hL.hb hne).2.1
    have hg2 := gr_two (gr_bel val.ownBlock hA) hg
    have hnb : ∀ k, Q k → some k ≠ val.ownBlock := fun k hk e => by have := (hownlt k e.symm).1; have := hQB k hk; omega
    exact ⟨y, (hL.hb hne).1, keepg hg2 (hnb b hqb) h1, FmIn.keep2 hg2.size (fun k hk hkl => ⟨hk, hg2.block k hkl (hnb k hk)⟩) _ _ h2⟩
  have HQB := Lib.hid hQB
  have HT := Lib.hid hth
  have hl := hL.hl
  have HS := Lib.hid hstep
  have HO := Lib.hid hownlt
  have HLn := Lib.hid hlen
  obtain ⟨pv, cv, rfl⟩ := hown.shape
  clear hA hE hownlt hQB hth hL hAt hown hstep hlen
  obtain ⟨ob, hob⟩ : ∃ ob, (Value.slice pv l.length cv).ownBlock = ob := ⟨_, rfl⟩
  have HOB := Lib.hid hob
  rw [hob] at H0 HEv HFm HGA HO
  clear hob
  unfold envV
  go_enter Tryz.func52, Tryz.ntmps52
  go_wp2_with fail
  go_loopw [0, 13] (fun v i wr => ∃ (j : Nat), j ≤ fs.length ∧ i = .int .i64 j ∧ Hid (ASt (W.alloc (.cells #[.int .i64 x.d, .int .i64 x.f, .int .i64 x.s] 42)) wr B ob v (appFs x l (fs.take j)))) (fun _ i _ => fs.length - (intOf i).toNat)
  case atStart => exact ⟨0, Nat.zero_le _, rfl, H0⟩
  case round =>
    obtain ⟨j, hj, rfl, HL⟩ := hrel
    clear H0
    by_cases hlt : j < fs.length
    · have hji : (j : Int) < (fs.length : Int) := by omega
      obtain ⟨y, rfl, hy, hf⟩ := HFm.out wr HL.out.gr j hlt
      obtain ⟨g0, g1, g2⟩ := HEv.out wr HL.out.gr
      have hst := stepFs_get fs j hlt HS.out
      have HAP : Hid (appFs x l (fs.take (j + 1)) = appF x (appFs x l (fs.take j)) fs[j]) := Lib.hid (appFs_take x fs l j hlt)
      have hnf := nFs_take fs j hlt
      have hal := appFs_len x (fs.take j) l
      have hll := HLn.out
      obtain ⟨pw, cw, hw⟩ := HL.out.own.shape
      subst hw
      have HTj := Lib.hid (HT.out j hlt)
      clear HT HS
      generalize hLj : appFs x l (fs.take j) = Lj at *
      cases hfj : fs[j] with
      | crit n =>
        rw [hfj, FmIn] at hf
        subst hf
        rw [hfj, appF] at HAP
        rw [hfj, nF] at hnf
        have hLl : Lj.length ≤ 1000000 := by omega
        have hA := (Below.refl wr.heap.size wr).alloc (Nat.le_refl _) (.cells #[.int .i64 n] 167)
        obtain ⟨pp, cc, bb, hv, hp1, hc1, -, -⟩ := (HL.out.own.bel hA).reads hLl
        obtain ⟨rfl, -, rfl⟩ := Value.slice.inj hv
        have HCt := Lib.hid (containsI_any Lj n pw bb cw _ hLl hp1 hc1)
        have HA := Lib.hid hA
        have HOa := Lib.hid (HL.out.own.bel hA)
        clear hv hp1 hc1 hA hst HTj hfj hnf hal hll HFm HEv
        have hBw : B ≤ (wr.alloc (.cells #[.int .i64 n] 167)).heap.size := by have := HL.out.gr.size; simp only [World.size_alloc] at this ⊢; omega
        have t1 := ta_criterion_criterion
        cases hq : Lj.contains n with
        | true =>
          rw [hq] at HCt
          rw [if_pos hq] at HAP
          have HS2 : Hid (ASt (W.alloc (.cells #[.int .i64 x.d, .int .i64 x.f, .int .i64 x.s] 42)) (wr.alloc (.cells #[.int .i64 n] 167)) B ob _ (appFs x l (fs.take (j + 1)))) := Lib.hid (by rw [HAP.out]; exact HL.out.step HA.out HOa.out (World.grownBy.refl _ _) (.inl rfl))
          clear hq hLj
          go_wp2_with (go_at_call 114; (with_reducible refine HCt.out.mono ?_); rintro e w1 ⟨rfl, rfl⟩)
          go_roundw
          case rel => exact ⟨j + 1, by omega, by go_num, HS2⟩
          case measure => simp [intOf]; omega
        | false =>
          rw [hq] at HCt
          rw [if_neg (by rw [hq]; decide)] at HAP
          clear hq hLj
          go_wp2_with (first | (go_at_call 114; (with_reducible refine HCt.out.mono ?_); rintro e w1 ⟨rfl, rfl⟩) | (refine wpList_pushI rfl _ _ rfl B _ Lj HOa.out rfl n 1 _ (by simp) rfl hLl hBw ?_; intro g cap' w5 ho5 hg5 hat5; have HS2 := Lib.hid (HL.out.step HA.out ho5 hg5 (own_at hat5)); rw [← HAP.out] at HS2; clear ho5 hg5 hat5))
          go_roundw
          case rel => exact ⟨j + 1, by omega, by go_num, HS2⟩
          case measure => simp [intOf]; omega
      | bran c th el =>
        rw [hfj, stepF, Bool.and_eq_true, Bool.and_eq_true] at hst
        obtain ⟨hrc, -, -⟩ := hst
        obtain ⟨hat1, hat2⟩ := HTj.out c th el hfj
        rw [hfj, nF] at hnf
        rw [hfj, FmIn] at hf
        obtain ⟨yc, p1, cap1, b1, off1, p2, cap2, b2, off2, rfl, hyc, ⟨hL1, hA1⟩, hL2, hA2⟩ := hf
        rw [hfj, appF] at HAP
        obtain ⟨tc, vc, rfl⟩ := hyc.iface
        have hA := (Below.refl wr.heap.size wr).alloc (Nat.le_refl _) (.cells #[.iface tc vc, .slice p1 th.length cap1, .slice p2 el.length cap2] 169)
        have HOa := Lib.hid (HL.out.own.bel hA)
        have HBw : Hid (B ≤ wr.heap.size) := Lib.hid (by have := HL.out.gr.size; simp only [World.size_alloc] at this; omega)
        have hownr := HL.out.own.lt
        have HX : Hid (∀ wa, wr.alloc (.cells #[.iface tc vc, .slice p1 th.length cap1, .slice p2 el.length cap2] 169) = wa → ∀ w', wa.grownBy w' (Value.slice pw Lj.length cw).ownBlock →
            w'.cell? ⟨W.heap.size, 0, none⟩ = some (.int .i64 x.d) ∧ w'.cell? ⟨W.heap.size, 1, none⟩ = some (.int .i64 x.f) ∧ w'.cell? ⟨W.heap.size, 2, none⟩ = some (.int .i64 x.s) ∧ w'.cell? ⟨wr.heap.size, 0, none⟩ = some (.iface tc vc) ∧ w'.cell? ⟨wr.heap.size, 1, none⟩ = some (.slice p1 th.length cap1) ∧ w'.cell? ⟨wr.heap.size, 2, none⟩ = some (.slice p2 el.length cap2) ∧ Hid (wa.grownBy w' (Value.slice pw Lj.length cw).ownBlock)) := Lib.hid fun wa e w' hg => by
          subst e
          have hne : some wr.heap.size ≠ (Value.slice pw Lj.length cw).ownBlock := fun e => by have := (hownr _ e.symm).2; omega
          have hneW : some W.heap.size ≠ (Value.slice pw Lj.length cw).ownBlock := fun e => by
            rcases HL.out.at' with h1 | h1
            · rw [h1] at e; have := (HO.out _ e.symm).2; omega
            · have := h1 _ e.symm; simp only [World.size_alloc] at this; omega
          exact ⟨keepg hg hneW (keepc hA g0), keepg hg hneW (keepc hA g1), keepg hg hneW (keepc hA g2), keepg hg hne (by simp [go_sem]), keepg hg hne (by simp [go_sem]), keepg hg hne (by simp [go_sem]), Lib.hid hg⟩
        have hnb : ∀ k, Q k → some k ≠ (Value.slice pw Lj.length cw).ownBlock := fun k hk e => by have := (hownr k e.symm).1; have := HQB.out k hk; omega
        have HFo : Hid (∀ wa, wr.alloc (.cells #[.iface tc vc, .slice p1 th.length cap1, .slice p2 el.length cap2] 169) = wa → ∀ w1, wa.grownBy w1 (Value.slice pw Lj.length cw).ownBlock → Calls Tryz.prog 115 #[.agg #[.iface tc vc, .slice p1 th.length cap1, .slice p2 el.length cap2], envV x] w1 fun e w' => e = .returned (if holdF x c = true then .slice p1 th.length cap1 else .slice p2 el.length cap2) ∧ Hid (wa.grownBy w' (Value.slice pw Lj.length cw).ownBlock) ∧ Hid (OwnI w1 B (.slice pw Lj.length cw) Lj → OwnI w' B (.slice pw Lj.length cw) Lj)) := Lib.hid fun wa e w1 hg => by
          subst e
          have hg2 := gr_two (gr_bel (Value.slice pw Lj.length cw).ownBlock hA) hg
          exact (follows_any c _ p1 p2 th.length el.length cap1 cap2 x w1 Q hrc (FmIn.keep2 hg2.size (fun k hk hkl => ⟨hk, hg2.block k hkl (hnb k hk)⟩) _ _ hyc)).mono fun e w' hr => ⟨hr.1, Lib.hid (gr_two hg (gr_bel _ hr.2)), Lib.hid fun ho => ho.bel hr.2⟩
        have HAp : Hid (∀ wa, wr.alloc (.cells #[.iface tc vc, .slice p1 th.length cap1, .slice p2 el.length cap2] 169) = wa → ∀ w1, wa.grownBy w1 (Value.slice pw Lj.length cw).ownBlock → OwnI w1 B (.slice pw Lj.length cw) Lj →
            Calls Tryz.prog 52 #[.slice pw Lj.length cw, if holdF x c = true then .slice p1 th.length cap1 else .slice p2 el.length cap2, envV x] w1 fun e w' => ∃ p9 c9 n9, e = .returned (.slice p9 n9 c9) ∧ Hid (wa.grownBy w' (Value.slice pw Lj.length cw).ownBlock) ∧ Hid (ASt (W.alloc (.cells #[.int .i64 x.d, .int .i64 x.f, .int .i64 x.s] 42)) w' B ob (.slice p9 n9 c9) (appFs x l (fs.take (j + 1))))) := Lib.hid fun wa e w1 hg ho => by
          subst e
          have hg2 := gr_two (gr_bel (Value.slice pw Lj.length cw).ownBlock hA) hg
          have hBw1 : B ≤ w1.heap.size := Nat.le_trans HBw.out hg2.size
          have hF1 : FsIn w1 Q th p1 cap1 := FsIn.keep2 ⟨b1, off1, hL1, hA1⟩ hg2.size fun k hk hkl => ⟨hk, hg2.block k hkl (hnb k hk)⟩
          have hF2 : FsIn w1 Q el p2 cap2 := FsIn.keep2 ⟨b2, off2, hL2, hA2⟩ hg2.size fun k hk hkl => ⟨hk, hg2.block k hkl (hnb k hk)⟩
          have key : ∀ L, AppR w1 B (.slice pw Lj.length cw) L = AppR w1 B (.slice pw Lj.length cw) L := fun _ => rfl
          rw [HAP.out]
          split
          · refine (hat1 w1 B _ Lj p1 cap1 HQB.out hBw1 ho (by omega) hF1).mono fun e w' ⟨val', he, h1, h2, h3⟩ => ?_
            obtain ⟨p9, c9, rfl⟩ := h1.shape
            exact ⟨p9, c9, _, he, Lib.hid (gr_two hg h2), Lib.hid (HL.out.step2 hg2 h1 h2 h3)⟩
          · refine (hat2 w1 B _ Lj p2 cap2 HQB.out hBw1 ho (by omega) hF2).mono fun e w' ⟨val', he, h1, h2, h3⟩ => ?_
            obtain ⟨p9, c9, rfl⟩ := h1.shape
            exact ⟨p9, c9, _, he, Lib.hid (gr_two hg h2), Lib.hid (HL.out.step2 hg2 h1 h2 h3)⟩
        clear hA hyc hL1 hA1 hL2 hA2 hat1 hat2 HTj hnf hal hll hnb hrc hownr g0 g1 g2 hfj HAP hLj HFm HEv
        have t1 := ta_branch_criterion
        have t2 := ta_branch_branch
        unfold envV at HFo HAp
        generalize holdF x c = q at *
        generalize th.length = n1 at *
        generalize el.length = n2 at *
        obtain ⟨d0, f0, s0⟩ := x
        simp only at *
        cases q
        all_goals
          simp only [Bool.false_eq_true, if_false, if_true] at HFo HAp
          go_wp2_with fail
          generalize hWA : wr.alloc (.cells #[.iface tc vc, .slice p1 n1 cap1, .slice p2 n2 cap2] 169) = wa at *
          have HX2 := Lib.hid (HX.out wa rfl)
          have HF2 := Lib.hid (HFo.out wa rfl)
          have HA2 := Lib.hid (HAp.out wa rfl)
          have HGd := Lib.hid (gr_bel (Value.slice pw Lj.length cw).ownBlock (Below.refl wa.heap.size wa).drew)
          have HOd := Lib.hid (HOa.out.bel (Below.refl wa.heap.size wa).drew)
          clear HX HFo HAp hWA
          obtain ⟨z0, z1, z2, z3, z4, z5, -⟩ := HX2.out wa (World.grownBy.refl _ _)
          go_region_held3 (fun w' => w'.cell? ⟨W.heap.size, 0, none⟩ = some (.int .i64 d0) ∧ w'.cell? ⟨W.heap.size, 1, none⟩ = some (.int .i64 f0) ∧ w'.cell? ⟨W.heap.size, 2, none⟩ = some (.int .i64 s0) ∧ w'.cell? ⟨wr.heap.size, 0, none⟩ = some (.iface tc vc) ∧ w'.cell? ⟨wr.heap.size, 1, none⟩ = some (.slice p1 n1 cap1) ∧ w'.cell? ⟨wr.heap.size, 2, none⟩ = some (.slice p2 n2 cap2) ∧ Hid (wa.grownBy w' (Value.slice pw Lj.length cw).ownBlock))
            (first
              | with_reducible exact HX2.out _ HGd.out
              | with_reducible exact HX2.out _ (World.grownBy.refl _ _)
              | with_reducible exact HX2.out _ hb2.out
              | with_reducible exact HX2.out _ hb1.out
              | assumption | go_keep)
            (first
              | (go_at_call 115; with_reducible refine (HF2.out _ (held6h (by assumption))).mono ?_; rintro e w' ⟨rfl, hb1, ho1⟩)
              | (go_at_call 52; with_reducible refine (HA2.out _ (held6h (by assumption)) (ho1.out HOd.out)).mono ?_; rintro e w' ⟨p9, c9, n9, rfl, hb2, ha2⟩))
          all_goals
            clear HX2 HF2 HA2 HGd HOd HOa hb1 ho1 hb2
            go_wp2_with fail
            go_roundw
            case rel => exact ⟨j + 1, by omega, by go_num, ha2⟩
            case measure => simp [intOf]; omega
      | atl _ _ => rw [hfj, stepF] at hst; cases hst
      | all _ => rw [hfj, stepF] at hst; cases hst
      | one _ => rw [hfj, stepF] at hst; cases hst
      | neg _ => rw [hfj, stepF] at hst; cases hst
      | mis => rw [hfj, stepF] at hst; cases hst
    · have hji : ¬ (j : Int) < (fs.length : Int) := by omega
      obtain rfl : j = fs.length := by omega
      rw [List.take_length] at HL
      have HG2 := Lib.hid (gr_two HGA.out HL.out.gr)
      have HF : Hid (∃ val', OwnI wr B val' (appFs x l fs) ∧ W.grownBy wr ob ∧ (val'.ownBlock = ob ∨ ∀ k, val'.ownBlock = some k → W.heap.size ≤ k) ∧ val' = _) := Lib.hid ⟨_, HL.out.own, HG2.out, HL.out.at'.imp id fun h k hk => by have := h k hk; simp only [World.size_alloc] at this; omega, rfl⟩
      clear HFm HEv HT HL
      go_wp2_with fail
      go_ret
      obtain ⟨val', h1, h2, h3, h4⟩ := HF.out
      exact ⟨_, rfl, h4 ▸ h1, by rw [HOB.out]; exact h2, by rw [HOB.out]; exact h4 ▸ h3⟩

mutual
theorem app_sub (x : En) (Q : Nat → Prop) : ∀ f : Fm, stepF f = true → ∀ c th el, f = .bran c th el → AppAt x Q th ∧ AppAt x Q el
  | .bran c th el, h, c2, th2, el2, e => by
    cases e
    rw [stepF, Bool.and_eq_true, Bool.and_eq_true] at h
    exact ⟨app_list x Q th h.2.1, app_list x Q el h.2.2⟩
  | .crit _, _, _, _, _, e => by cases e
  | .atl _ _, _, _, _, _, e => by cases e
  | .all _, _, _, _, _, e => by cases e
  | .one _, _, _, _, _, e => by cases e
  | .neg _, _, _, _, _, e => by cases e
  | .mis, _, _, _, _, e => by cases e
theorem app_list (x : En) (Q : Nat → Prop) : ∀ l : List Fm, stepFs l = true → AppAt x Q l
  | l, h => applied_loop x Q l h (app_subs x Q l h)
theorem app_subs (x : En) (Q : Nat → Prop) : ∀ l : List Fm, stepFs l = true → ∀ i (h : i < l.length) c th el, l[i] = .bran c th el → AppAt x Q th ∧ AppAt x Q el
  | [], _, i, h, _, _, _, _ => absurd h (by simp)
  | f :: l, h, 0, _, c, th, el, e => app_sub x Q f (by rw [stepFs, Bool.and_eq_true] at h; exact h.1) c th el e
  | f :: l, h, i + 1, hi, c, th, el, e => app_subs x Q l (by rw [stepFs, Bool.and_eq_true] at h; exact h.2) i (by simpa using hi) c th el e
end
end Go.Proofs.YtabdgnigmlpeaaaGreatDoor
/- typing.Direct. -/
namespace Go.Proofs.YtabdgnigmlpeaaaGreatDoor
open Go.RowKit

/-- What Direct returns. -/
def directR (l : List St) (x : En) : List Int × Int := if tiesE l ≠ 0 then ([], tiesE l) else if envE x ≠ 0 then ([], envE x) else (appFs x [] (l.map formS), 0)
/-- A slice that reads as a list of numbers. -/
def ReadsI (w : World) (v : Value) (l : List Int) : Prop := ∃ p cap b, v = .slice p l.length cap ∧ l.length ≤ 1000000 ∧ (l ≠ [] → p = some ⟨b, 0, none⟩) ∧ (∀ i (h : i < l.length), w.cell? ⟨b, i, none⟩ = some (.int .i64 l[i])) ∧ l.length ≤ cap ∧ cap ≤ 9223372036854775807
theorem ReadsI.bel {w w' : World} {v : Value} {l : List Int} (h : ReadsI w v l) (hb : Below w.heap.size w w') : ReadsI w' v l := by
  obtain ⟨p, cap, b, h1, h2, h3, h4, h5⟩ := h
  exact ⟨p, cap, b, h1, h2, h3, fun i hi => keepc hb (h4 i hi), h5⟩
theorem ReadsI.nil (w : World) : ReadsI w (.slice none 0 0) [] := ⟨none, 0, 0, rfl, by simp, fun h => absurd rfl h, fun i h => by simp at h, by simp, by simp⟩
/-- What a call of Direct comes to. -/
def DirR (w : World) (r : List Int × Int) (e : Ending) (w' : World) : Prop := ∃ v, e = .returned (.tuple #[v, .int .i64 r.2]) ∧ ReadsI w' v r.1 ∧ Below w.heap.size w w'
theorem tiesE_ok {l : List St} (h : tiesE l = 0) : stepFs (l.map formS) = true ∧ nFs (l.map formS) ≤ 64 := by
  unfold tiesE at h
  split at h
  · cases h
  · rename_i h1
    split at h
    · rename_i h2
      unfold stepsOk at h2
      rw [Bool.and_eq_true, ← rngFs_eq, ← formSs_eq] at h2
      have hf : (fitT 0 64 l).1 = true := by
        cases hh : (fitT 0 64 l).1 with
        | true => rfl
        | false => exact absurd (.inl hh) h1
      have := fitT_few hf
      have := nFs_formSs l
      rw [← formSs_eq]
      exact ⟨stepFs_formSs l h2.2, by omega⟩
    · cases h

set_option maxHeartbeats 4000000 in
theorem tDirect_any {w : World} {Q : Nat → Prop} {l : List St} {p : Option Addr} {cap : Nat} (h : SsIn w Q l p cap) (x : En) :
    Calls Tryz.prog 22 #[.slice p l.length cap, envV x] w (DirR w (directR l x)) := by
  have hA := (Below.refl w.heap.size w).alloc (Nat.le_refl _) (.cells #[.int .i64 x.d, .int .i64 x.f, .int .i64 x.s] 42)
  have hE := EnvAt.new w x
  have hrs := readSteps_any (h.bel hA)
  have H : Hid (Calls Tryz.prog 49 #[.slice p l.length cap] (w.alloc (.cells #[.int .i64 x.d, .int .i64 x.f, .int .i64 x.s] 42)) fun e w' => ((tiesE l = 0 → ∃ q k, e = .returned (.tuple #[.slice q l.length k, .int .i64 0]) ∧ FsIn w' (fun _ => True) (l.map formS) q k) ∧ (tiesE l ≠ 0 → e = .returned (.tuple #[.slice none 0 0, .int .i64 (tiesE l)]))) ∧ Below w.heap.size w w' ∧ EnvAt w' w.heap.size x) := Lib.hid (hrs.mono fun e w' hr =>
    ⟨⟨fun h0 => by obtain ⟨q, k, h1, h2⟩ := hr.1 h0; exact ⟨q, k, h1, h2.keep2 (Nat.le_refl _) fun _ _ _ => ⟨trivial, rfl⟩⟩, hr.2.1⟩, hA.trans (hr.2.2.mono hA.size), hE.bel hr.2.2⟩)
  have HN := Lib.hid (fun W => env_any x W)
  have HA2 : Hid (tiesE l = 0 → ∀ W q k, FsIn W (fun _ => True) (l.map formS) q k → Calls Tryz.prog 52 #[.slice none 0 0, .slice q l.length k, envV x] W fun e w' => ∃ v, e = .returned v ∧ ReadsI w' v (appFs x [] (l.map formS)) ∧ Below W.heap.size W w') := Lib.hid fun h0 W q k hf => by
    obtain ⟨hst, hn⟩ := tiesE_ok h0
    have := app_list x (fun b => b < W.heap.size) _ hst W W.heap.size (.slice none 0 0) [] q k (fun b hb => hb) (Nat.le_refl _) (World.ownsRow_nil W _ _ _) (by rw [List.length_nil]; omega) (hf.keep2 (Nat.le_refl _) fun b _ hb => ⟨hb, rfl⟩)
    rw [List.length_map] at this
    refine this.mono fun e w' ⟨val', he, ho, hg, _⟩ => ?_
    have hlen := appFs_len x (l.map formS) []
    rw [List.length_nil] at hlen
    obtain ⟨p, cap, b, h1, h2, h3, h4⟩ := OwnI.reads ho (by omega)
    exact ⟨val', he, ⟨p, cap, b, h1, by omega, h2, h3, h4⟩, ⟨hg.os, hg.tape, hg.output, hg.size, fun k hk => hg.block k hk (by simp [Value.ownBlock])⟩⟩
  have HEC := Lib.hid (envE_cases x)
  clear hA hE hrs h
  unfold directR
  unfold envV at *
  generalize tiesE l = E at *
  generalize l.map formS = fs at *
  generalize appFs x [] fs = L at *
  generalize envE x = E2 at *
  generalize l.length = n at *
  have HNil := Lib.hid ReadsI.nil
  by_cases hE : E = 0
  · subst hE
    have HA3 := Lib.hid (HA2.out rfl)
    rw [if_neg (by decide)]
    clear HA2
    rcases HEC.out with rfl | rfl
    · rw [if_neg (by decide)]
      go_enter Tryz.func22, Tryz.ntmps22
      go_wp2_with fail
      go_at_call 49
      (with_reducible refine H.out.mono ?_)
      rintro e w1 ⟨⟨h1, -⟩, hb, ⟨c0, c1, c2⟩⟩
      obtain ⟨q, k, rfl, hf⟩ := h1 (by trivial)
      have HB := Lib.hid hb
      have HF := Lib.hid hf
      clear hb h1 hf H
      go_wp2_with fail
      go_at_call 20
      (with_reducible refine (HN.out _).mono ?_)
      rintro e w2 ⟨rfl, hb⟩
      have HB2 := Lib.hid (HB.out.trans (hb.mono HB.out.size))
      have HF2 := Lib.hid (HF.out.bel hb)
      have d0 := keepc hb c0
      have d1 := keepc hb c1
      have d2 := keepc hb c2
      clear hb c0 c1 c2 HN
      go_wp2_with fail
      go_at_call 52
      (with_reducible refine (HA3.out _ _ _ HF2.out).mono ?_)
      rintro e w3 ⟨v, rfl, hrd, hb⟩
      have HB3 := Lib.hid (HB2.out.trans (hb.mono HB2.out.size))
      have HRd := Lib.hid hrd
      obtain ⟨pv, cv, bv, rfl, -⟩ := hrd
      clear hb
      go_wp2_with fail
      go_ret2
      exact ⟨_, rfl, HRd.out, HB3.out⟩
    · rw [if_pos (by decide)]
      go_enter Tryz.func22, Tryz.ntmps22
      go_wp2_with fail
      go_at_call 49
      (with_reducible refine H.out.mono ?_)
      rintro e w1 ⟨⟨h1, -⟩, hb, ⟨c0, c1, c2⟩⟩
      obtain ⟨q, k, rfl, hf⟩ := h1 (by trivial)
      have HB := Lib.hid hb
      clear hb h1 hf H
      go_wp2_with fail
      go_at_call 20
      (with_reducible refine (HN.out _).mono ?_)
      rintro e w2 ⟨rfl, hb⟩
      have HB2 := Lib.hid (HB.out.trans (hb.mono HB.out.size))
      clear hb c0 c1 c2 HN
      go_wp2_with fail
      go_ret2
      exact ⟨_, rfl, HNil.out _, HB2.out⟩
  · rw [if_pos hE]
    have hb0 : (E != 0) = true := by simpa using hE
    have HE := Lib.hid hE
    clear hE HA2
    go_enter Tryz.func22, Tryz.ntmps22
    go_wp2_with fail
    go_at_call 49
    (with_reducible refine H.out.mono ?_)
    rintro e w1 ⟨⟨-, h1⟩, hb, -⟩
    obtain rfl := h1 HE.out
    have HB := Lib.hid hb
    clear hb h1 H
    go_wp2_with fail
    go_ret2
    exact ⟨_, rfl, HNil.out _, HB.out⟩
end Go.Proofs.YtabdgnigmlpeaaaGreatDoor
/- The specification: ties, few steps, the same badges. -/
namespace Go.Proofs.YtabdgnigmlpeaaaGreatDoor
open Go.RowKit

set_option maxHeartbeats 2000000 in
theorem rties_any {w : World} {Q : Nat → Prop} {l : List St} {p : Option Addr} {cap : Nat} (h : SsIn w Q l p cap) :
    Calls Tryz.prog 19 #[.slice p l.length cap] w fun e w' => e = .returned (.int .i64 (rTies l)) ∧ Below w.heap.size w w' := by
  have H1 := rsize_any h w 0 (Below.refl _ _) (by omega)
  rw [show ((0 : Nat) : Int) = 0 from rfl] at H1
  have HS := Lib.hid H1
  have HP : Hid (∀ W, Below w.heap.size w W → Calls Tryz.prog 50 #[.slice p l.length cap] W fun e w' => e = .returned (.bool (okSs l)) ∧ Below W.heap.size W w') := Lib.hid fun W hb => rsteps_any h W hb
  have hr : (l.length = 0 ∧ (rTies l = if 64 < (sizL 0 l).1 ∨ 256 < (sizL 0 l).2 then 2 else 71)) ∨ (((l.length : Int) == 0) = false ∧ (rTies l = if 64 < (sizL 0 l).1 ∨ 256 < (sizL 0 l).2 then 2 else if okSs l = true then 0 else 71)) := by
    cases l with
    | nil => exact .inl ⟨rfl, by unfold rTies; simp⟩
    | cons s l => exact .inr ⟨beq_eq_false_iff_ne.2 (by simp only [List.length_cons]; omega), by unfold rTies; simp⟩
  have hb := sizL_max 0 (by omega) l
  clear h H1
  generalize rTies l = R at *
  generalize (sizL 0 l).1 = n at *
  generalize (sizL 0 l).2 = m at *
  generalize okSs l = q at *
  generalize l.length = ln at *
  by_cases hn : 64 < n
  · have hni : (64 : Int) < (n : Int) := by omega
    have hR : R = 2 := by rcases hr with ⟨_, h⟩ | ⟨_, h⟩ <;> rw [if_pos (.inl hn)] at h <;> exact h
    subst hR
    clear HP hr
    go_enter Tryz.func19, Tryz.ntmps19
    go_wp2_with (go_at_call 46; (with_reducible refine HS.out.mono ?_); rintro e w1 ⟨rfl, hb1⟩; have HB := Lib.hid hb1; clear hb1)
    go_ret
    exact ⟨rfl, HB.out⟩
  · have hni : ¬ (64 : Int) < (n : Int) := by omega
    by_cases hm : 256 < m
    · have hmi : (256 : Int) < (m : Int) := by omega
      have hR : R = 2 := by rcases hr with ⟨_, h⟩ | ⟨_, h⟩ <;> rw [if_pos (.inr hm)] at h <;> exact h
      subst hR
      clear HP hr
      go_enter Tryz.func19, Tryz.ntmps19
      go_wp2_with (go_at_call 46; (with_reducible refine HS.out.mono ?_); rintro e w1 ⟨rfl, hb1⟩; have HB := Lib.hid hb1; clear hb1)
      go_ret
      exact ⟨rfl, HB.out⟩
    · have hmi : ¬ (256 : Int) < (m : Int) := by omega
      rw [if_neg (fun h => h.elim hn hm), if_neg (fun h => h.elim hn hm)] at hr
      rcases hr with ⟨rfl, rfl⟩ | ⟨hl, hR⟩
      · clear HP
        go_enter Tryz.func19, Tryz.ntmps19
        go_wp2_with (go_at_call 46; (with_reducible refine HS.out.mono ?_); rintro e w1 ⟨rfl, hb1⟩; have HB := Lib.hid hb1; clear hb1)
        go_ret
        exact ⟨rfl, HB.out⟩
      · cases q
        all_goals
          simp only [Bool.false_eq_true, if_false, if_true] at hR
          subst hR
          go_enter Tryz.func19, Tryz.ntmps19
          go_wp2_with (first | (go_at_call 46; (with_reducible refine HS.out.mono ?_); rintro e w1 ⟨rfl, hb1⟩; have HB := Lib.hid hb1; clear hb1) | (go_at_call 50; (with_reducible refine (HP.out _ HB.out).mono ?_); rintro e w2 ⟨rfl, hb2⟩; have HB2 := Lib.hid (HB.out.trans (hb2.mono HB.out.size)); clear hb2))
          go_ret
          exact ⟨rfl, HB2.out⟩

def fewS (l : List St) : Bool := decide (l.length ≤ 20) && (decide ((sizL 0 l).1 ≤ 80) && decide ((sizL 0 l).2 ≤ 300))
set_option maxHeartbeats 2000000 in
theorem few_any {w : World} {Q : Nat → Prop} {l : List St} {p : Option Addr} {cap : Nat} (h : SsIn w Q l p cap) :
    Calls Tryz.prog 15 #[.slice p l.length cap] w fun e w' => e = .returned (.bool (fewS l)) ∧ Below w.heap.size w w' := by
  have H1 := rsize_any h w 0 (Below.refl _ _) (by omega)
  rw [show ((0 : Nat) : Int) = 0 from rfl] at H1
  have HS := Lib.hid H1
  have hb := sizL_max 0 (by omega) l
  unfold fewS
  clear h H1
  generalize (sizL 0 l).1 = n at *
  generalize (sizL 0 l).2 = m at *
  generalize l.length = ln at *
  by_cases hl : ln ≤ 20
  · have hli : (ln : Int) ≤ 20 := by omega
    rw [decide_eq_true hl, Bool.true_and]
    by_cases hn : n ≤ 80
    · have hni : (n : Int) ≤ 80 := by omega
      rw [decide_eq_true hn, Bool.true_and]
      rw [show decide (m ≤ 300) = decide ((m : Int) ≤ 300) from decide_eq_decide.2 (by omega)]
      go_enter Tryz.func15, Tryz.ntmps15
      go_wp2_with (go_at_call 46; (with_reducible refine HS.out.mono ?_); rintro e w1 ⟨rfl, hb1⟩; have HB := Lib.hid hb1; clear hb1)
      go_ret
      exact ⟨rfl, HB.out⟩
    · have hni : ¬ (n : Int) ≤ 80 := by omega
      rw [decide_eq_false hn, Bool.false_and]
      go_enter Tryz.func15, Tryz.ntmps15
      go_wp2_with (go_at_call 46; (with_reducible refine HS.out.mono ?_); rintro e w1 ⟨rfl, hb1⟩; have HB := Lib.hid hb1; clear hb1)
      go_ret
      exact ⟨rfl, HB.out⟩
  · have hli : ¬ (ln : Int) ≤ 20 := by omega
    rw [decide_eq_false hl, Bool.false_and]
    go_enter Tryz.func15, Tryz.ntmps15
    go_wp2_with (go_at_call 46; (with_reducible refine HS.out.mono ?_); rintro e w1 ⟨rfl, hb1⟩; have HB := Lib.hid hb1; clear hb1)
    go_ret
    exact ⟨rfl, HB.out⟩

theorem drop_ne {a b : List Int} {j : Nat} (ha : j < a.length) (hb : j < b.length) (h : a[j] ≠ b[j]) : a ≠ b := by
  rintro rfl; exact h rfl
set_option maxHeartbeats 4000000 in
set_option maxRecDepth 100000 in
/-- Two lists of integers are the same. -/
theorem same_any (a b : List Int) (x y : Value) (W : World) (ha : ReadsI W x a) (hb : ReadsI W y b) :
    Calls Tryz.prog 26 #[x, y] W fun e w' => e = .returned (.bool (decide (a = b))) ∧ Below W.heap.size W w' := by
  obtain ⟨p, cap, k, rfl, h1, h2, h3, h4, h5⟩ := ha
  obtain ⟨p', cap', k', rfl, g1, g2, g3, g4, g5⟩ := hb
  have HB0 := Lib.hid (Below.refl W.heap.size W)
  by_cases hl : a.length = b.length
  · have hli : ((a.length : Int) != (b.length : Int)) = false := by rw [hl]; simp
    obtain ⟨T, hT⟩ : ∃ T, decide (a = b) = T := ⟨_, rfl⟩
    rw [hT]
    have HT := Lib.hid hT
    have HE : Hid (∀ w', Below W.heap.size W w' → ∀ j (h : j < a.length) (h' : j < b.length), (p = some ⟨k, 0, none⟩ ∧ p' = some ⟨k', 0, none⟩) ∧ w'.cell? ⟨k, j, none⟩ = some (.int .i64 a[j]) ∧ w'.cell? ⟨k', j, none⟩ = some (.int .i64 b[j])) := Lib.hid fun w' hb j hj hj' =>
      ⟨⟨h2 (by rintro rfl; simp at hj), g2 (by rintro rfl; simp at hj')⟩, keepc hb (h3 j hj), keepc hb (g3 j hj')⟩
    clear h2 h3 g2 g3 hT
    go_enter Tryz.func26, Tryz.ntmps26
    go_wp2_with fail
    go_loopw [5] (fun i wr => ∃ j : Nat, j ≤ a.length ∧ i = .int .i64 j ∧ Hid (∀ i (h : i < a.length) (h' : i < b.length), i < j → a[i] = b[i]) ∧ Hid (Below W.heap.size W wr)) (fun i _ => a.length - (intOf i).toNat)
    case atStart => exact ⟨0, Nat.zero_le _, rfl, Lib.hid (fun i _ _ h => absurd h (Nat.not_lt_zero _)), HB0⟩
    case round =>
      obtain ⟨j, hj, rfl, HI, HB⟩ := hrel
      clear HB0
      by_cases hlt : j < a.length
      · have hji : (j : Int) < (a.length : Int) := by omega
        have hlt' : j < b.length := by omega
        have hji' : (j : Int) < (b.length : Int) := by omega
        obtain ⟨⟨rfl, rfl⟩, c1, c2⟩ := HE.out _ HB.out j hlt hlt'
        by_cases hv : a[j] = b[j]
        · have hvi : (a[j] != b[j]) = false := by rw [hv]; simp
          have HI2 : Hid (∀ i (h : i < a.length) (h' : i < b.length), i < j + 1 → a[i] = b[i]) := Lib.hid fun i h h' hi => by
            by_cases hij : i = j
            · subst hij; exact hv
            · exact HI.out i h h' (by omega)
          have HD : Hid (∀ nn, Below W.heap.size W (wr.drewN nn)) := Lib.hid fun nn => HB.out.trans ⟨rfl, rfl, rfl, Nat.le_refl _, fun _ _ => rfl⟩
          clear HE HI HT hv
          generalize a[j] = v1 at *
          generalize b[j] = v2 at *
          go_wp2_with fail
          go_quiet (fail)
          go_wp2_with fail
          go_roundw
          case rel => exact ⟨j + 1, by omega, by go_num, HI2, Lib.hid (HD.out _)⟩
          case measure => simp [intOf]; omega
        · have hvi : (a[j] != b[j]) = true := by simpa using hv
          have hT : T = false := HT.out.symm.trans (decide_eq_false (drop_ne hlt hlt' hv))
          subst hT
          have HD : Hid (∀ nn, Below W.heap.size W (wr.drewN nn)) := Lib.hid fun nn => HB.out.trans ⟨rfl, rfl, rfl, Nat.le_refl _, fun _ _ => rfl⟩
          clear HE HI HT hv
          generalize a[j] = v1 at *
          generalize b[j] = v2 at *
          go_wp2_with fail
          go_quiet (fail)
          go_wp2_with fail
          go_ret
          exact ⟨rfl, HD.out _⟩
      · have hji : ¬ (j : Int) < (a.length : Int) := by omega
        have hT : T = true := HT.out.symm.trans (decide_eq_true (List.ext_getElem hl fun i h h' => HI.out i h h' (by omega)))
        subst hT
        clear HE HI HT
        go_wp2_with fail
        go_ret
        exact ⟨rfl, HB.out⟩
  · have hli : ((a.length : Int) != (b.length : Int)) = true := by simp only [bne_iff_ne, ne_eq]; omega
    rw [decide_eq_false fun h => hl (by rw [h])]
    clear h2 h3 g2 g3
    go_enter Tryz.func26, Tryz.ntmps26
    go_wp2_with fail
    go_ret
    exact ⟨rfl, HB0.out⟩
end Go.Proofs.YtabdgnigmlpeaaaGreatDoor
/- Rows of numbers of the call's own: a row behind a row, a number behind a row, in a region that draws its order. -/
namespace Go.Proofs.YtabdgnigmlpeaaaGreatDoor
open Go.RowKit

theorem OwnI.cells {w : World} {B g n cap : Nat} {l : List Int} (h : OwnI w B (.slice (some ⟨g, 0, none⟩) n cap) l) : ∀ j u, (rowV l)[j]? = some u → w.cell? ((⟨g, 0, none⟩ : Addr).add j) = some u := World.ownsRow.cells h (g := g) rfl
theorem OwnI.of_block {w : World} {B k : Nat} {fr : Nat × Nat} (hk : w.heap[k]? = some (.cells #[] 3 fr)) (hB : B ≤ k) (hf : fr = (0, 0)) : OwnI w B (.slice (some ⟨k, 0, none⟩) 0 0) [] := by
  subst hf
  exact ⟨rfl, .inr ⟨k, 0, #[], rfl, hB, hk, Nat.le_refl _, by unfold maxLen; omega, rfl, rfl⟩⟩
theorem own1 (V : World) (k B : Nat) (hk : V.heap.size = k) (hB : B ≤ k) : OwnI (V.alloc (.cells #[] 3)) B (.slice (some ⟨k, 0, none⟩) 0 0) [] := by
  subst hk
  exact OwnI.of_block (heap_alloc_new V _) hB rfl
theorem OwnI.drewI {w : World} {B : Nat} {v : Value} {l : List Int} (h : OwnI w B v l) : OwnI w.drew B v l := h.bel (Below.refl _ _).drew
theorem OwnI.allocI {w : World} {B : Nat} {v : Value} {l : List Int} (h : OwnI w B v l) (o : Obj) : OwnI (w.alloc o) B v l := h.bel ((Below.refl _ _).alloc (Nat.le_refl _) _)
theorem below_in {A w1 W w5 : World} (h0 : Below A.heap.size A w1) (h1 : Below w1.heap.size w1 W) (h2 : Below w1.heap.size W w5) : Below A.heap.size A w5 := h0.trans ((h1.trans h2).mono h0.size)
theorem below_in2 {A w5 W w6 : World} {B : Nat} (h0 : Below A.heap.size A w5) (hA : A.heap.size ≤ B) (h1 : Below w5.heap.size w5 W) (h2 : Below B W w6) : Below A.heap.size A w6 := (h0.trans (h1.mono h0.size)).trans (h2.mono hA)
theorem OwnI.low {w : World} {B : Nat} {v : Value} {l : List Int} (h : OwnI w B v l) : OwnI w 0 v l := by
  refine ⟨h.1, h.2.imp id ?_⟩
  rintro ⟨g, cap, cur, rfl, a, b⟩
  exact ⟨g, cap, cur, rfl, Nat.zero_le _, b⟩
theorem OwnI.below {w w' : World} {B : Nat} {v : Value} {l : List Int} (h : OwnI w B v l) (hg : w.grownBy w' v.ownBlock) (hB : B ≤ w.heap.size) : Below B w w' :=
  ⟨hg.os, hg.tape, hg.output, hg.size, fun k hk => hg.block k (by omega) fun e => by have := (h.lt k e.symm).1; omega⟩
theorem wp_copyI {o : Oper} {a : Act} {w : World} {K : Act → World → Prop} {Q : Exit → Act → World → Prop} (s x : Operand)
    (ho : o.op = .call { callee := .builtin .append, args := #[s, x], argTypes := #[49, 49] })
    (B : Nat) (val : Value) (l : List Int) (hown : OwnI w B val l) (hs : a.eval s = val) (B2 : Nat) (val2 : Value) (cs : List Int) (hsrc : OwnI w B2 val2 cs) (hx : a.eval x = val2) (hn : l.length + cs.length ≤ 3000000) (hB : B ≤ w.heap.size)
    (h : ∀ v2 w', OwnI w' B v2 (l ++ cs) → w.grownBy w' val.ownBlock → Below B w w' → K (a.put o.dst v2) w') :
    Oper.wp Tryz.prog o a w K Q := by
  obtain ⟨i0, hi, hz0, hz1, hz2⟩ := info_parts Tryz.infoI
  rcases hsrc.2 with ⟨hv, hn0⟩ | ⟨g, cap, cur, hv, hBg, hg, hc, hm, hsz, ht⟩
  · obtain rfl : cs = [] := List.length_eq_zero_iff.1 hn0
    have hrun := run_append_owned_none (P := Tryz.prog) (w := w) B 49 o.type 3 i0 1 Tryz.underlying49 hi val l.length (rowV l) hown
    have hk := h val w (by rw [List.append_nil]; exact hown) (World.grownBy.refl _ _) (Below.refl _ _)
    unfold Oper.wp
    simp [execOp, ho, resolve, invoke, builtin, hs, hx, hv, hrun, Result.andThen]
    exact hk
  · subst hv
    refine wp_append_own w s x 49 ho B 3 i0 _ 1 8 Tryz.underlying49 hi hz0 hz1 hz2 rfl (by decide) val l.length (rowV l) hs hown ⟨g, 0, none⟩ cs.length cap (rowV cs) hx (by simp [rowV]) (World.ownsRow.cells hsrc (g := g) rfl) (by simp [rowV, Value.oneCell']) (by unfold maxLen; omega) (by omega) hB ?_
    intro v' w' ho' hg' _
    refine h v' w' ?_ hg' (hown.below hg' hB)
    unfold OwnI
    rw [List.length_append]
    have : rowV (l ++ cs) = rowV l ++ rowV cs := by simp [rowV]
    rw [this]
    exact ho'
theorem step_copyI {ops : Array Oper} {o : Oper} {a : Act} {w : World} {K : Act → World → Prop} {Q : Exit → Act → World → Prop} {E : Prop} (hgd : o.guard = none) (s x : Operand)
    (ho : o.op = .call { callee := .builtin .append, args := #[s, x], argTypes := #[49, 49] })
    (B : Nat) (val : Value) (l : List Int) (hown : OwnI w B val l) (hs : a.eval s = val) (B2 : Nat) (val2 : Value) (cs : List Int) (hsrc : OwnI w B2 val2 cs) (hx : a.eval x = val2) (hn : l.length + cs.length ≤ 3000000) (hB : B ≤ w.heap.size)
    (h : ∀ v2 w', OwnI w' B v2 (l ++ cs) → w.grownBy w' val.ownBlock → Below B w w' → K (a.put o.dst v2) w') :
    if Region.wanted o (yielded ops a.tmps) = true then Oper.wp Tryz.prog o a w K Q else E := by
  have hw : Region.wanted o (yielded ops a.tmps) = true := by simp [Region.wanted, hgd]
  rw [if_pos hw]
  exact wp_copyI s x ho B val l hown hs B2 val2 cs hsrc hx hn hB h
theorem step_pushI {ops : Array Oper} {o : Oper} {a : Act} {w : World} {K : Act → World → Prop} {Q : Exit → Act → World → Prop} {E : Prop} (hgd : o.guard = none) (s x : Operand)
    (ho : o.op = .call { callee := .builtin .append, args := #[s, x], argTypes := #[49, 49] })
    (B : Nat) (val : Value) (l : List Int) (hown : OwnI w B val l) (hs : a.eval s = val) (H c : Nat) (hx : a.eval x = .slice (some ⟨H, 0, none⟩) 1 c) (n : Int) (hcell : w.cell? ⟨H, 0, none⟩ = some (.int .i64 n)) (hn : l.length ≤ 3000000) (hB : B ≤ w.heap.size)
    (h : ∀ v2 w', OwnI w' B v2 (l ++ [n]) → w.grownBy w' val.ownBlock → Below B w w' → K (a.put o.dst v2) w') :
    if Region.wanted o (yielded ops a.tmps) = true then Oper.wp Tryz.prog o a w K Q else E := by
  obtain ⟨i0, hi, hz0, hz1, hz2⟩ := info_parts Tryz.infoI
  have hcells : ∀ j u, ([.int .i64 n] : List Value)[j]? = some u → w.cell? ((⟨H, 0, none⟩ : Addr).add j) = some u := by
    intro j u hj
    match j, hj with
    | 0, hj => simp at hj; subst hj; simpa [Addr.add] using hcell
    | j + 1, hj => simp at hj
  refine step_append_lies _ hgd s x 49 ho B 3 i0 _ 1 8 Tryz.underlying49 hi hz0 hz1 hz2 rfl (by decide) val l.length (rowV l) hs hown ⟨H, 0, none⟩ 1 c _ hx rfl hcells (by simp [Value.oneCell']) (by decide) (by unfold maxLen; omega) (by omega) hB w.heap.size rfl ?_
  intro g cap' w' hown' hg _ _
  refine h _ w' ?_ hg (hown.below hg hB)
  unfold OwnI
  rw [List.length_append]
  have : rowV (l ++ [n]) = rowV l ++ [.int .i64 n] := by simp [rowV]
  rw [this]
  exact hown'
theorem wpList_copyI {ops : Array Oper} {rest : List Oper} {o : Oper} {a : Act} {w : World} {Q : Exit → Act → World → Prop} (hgd : o.guard = none) (s x : Operand)
    (ho : o.op = .call { callee := .builtin .append, args := #[s, x], argTypes := #[49, 49] })
    (B : Nat) (val : Value) (l : List Int) (hown : OwnI w B val l) (hs : a.eval s = val) (B2 : Nat) (val2 : Value) (cs : List Int) (hsrc : OwnI w B2 val2 cs) (hx : a.eval x = val2) (hn : l.length + cs.length ≤ 3000000) (hB : B ≤ w.heap.size)
    (h : ∀ v2 w', OwnI w' B v2 (l ++ cs) → w.grownBy w' val.ownBlock → Below B w w' → wpList Tryz.prog ops Q rest (a.put o.dst v2) w') : wpList Tryz.prog ops Q (o :: rest) a w :=
  wpList_plain hgd fun _ hK => wp_copyI s x ho B val l hown hs B2 val2 cs hsrc hx hn hB fun v2 w' h1 h2 h3 => hK _ _ (h v2 w' h1 h2 h3)
end Go.Proofs.YtabdgnigmlpeaaaGreatDoor
/- Numbers that are read, behind a row of numbers of the call's own. -/
namespace Go.Proofs.YtabdgnigmlpeaaaGreatDoor
open Go.RowKit

theorem run_append_none_cap {w : World} (base : Nat) (t ty e : TypeId) (i : TypeInfo) (size : Nat) (ht : Tryz.prog.underlying t = some (.slice e)) (hi : Tryz.prog.info? e = some i)
    (v : Value) (n : Nat) (xs : List Value) (hown : w.ownsRow base e size v n xs) (c : Nat) :
    (Builtin.append_ #[t, t] ty #[v, .slice none 0 c]).run Tryz.prog w = .ok v w := by
  rcases hown.2 with ⟨rfl, rfl⟩ | ⟨g, cap, cur, rfl, _, _, hnc, _⟩
  · simp [Builtin.append_, run_underlying ht, sizeOf, typeInfo, hi, Builtin.lenOf, Builtin.firstCells]
  · simp [Builtin.append_, run_underlying ht, sizeOf, typeInfo, hi, Builtin.lenOf, Builtin.firstCells, hnc, storeCells]
theorem wp_copyR {o : Oper} {a : Act} {w : World} {K : Act → World → Prop} {Q : Exit → Act → World → Prop} (s x : Operand)
    (ho : o.op = .call { callee := .builtin .append, args := #[s, x], argTypes := #[49, 49] })
    (B : Nat) (val : Value) (l : List Int) (hown : OwnI w B val l) (hs : a.eval s = val) (val2 : Value) (cs : List Int) (hsrc : ReadsI w val2 cs) (hx : a.eval x = val2) (hn : l.length + cs.length ≤ 3000000) (hB : B ≤ w.heap.size)
    (h : ∀ v2 w', OwnI w' B v2 (l ++ cs) → w.grownBy w' val.ownBlock → Below B w w' → K (a.put o.dst v2) w') : Oper.wp Tryz.prog o a w K Q := by
  obtain ⟨i0, hi, hz0, hz1, hz2⟩ := info_parts Tryz.infoI
  obtain ⟨p, cap, b, rfl, h1, h2, h3, h4, h5⟩ := hsrc
  have hcell : ∀ ad, p = some ad → ∀ j u, (rowV cs)[j]? = some u → w.cell? (ad.add j) = some u := fun ad e j u hu => by
    unfold rowV at hu
    rw [List.getElem?_map] at hu
    obtain ⟨n, hj, rfl⟩ := Option.map_eq_some_iff.1 hu
    obtain ⟨hlt, rfl⟩ := List.getElem?_eq_some_iff.1 hj
    have hp := h2 (by rintro rfl; simp at hlt)
    rw [e] at hp
    obtain rfl := Option.some.inj hp
    have hadd : (⟨b, 0, none⟩ : Addr).add j = ⟨b, j, none⟩ := by
      unfold Addr.add
      split <;> simp_all
    rw [hadd]
    exact h3 j hlt
  cases p with
  | none =>
    obtain rfl : cs = [] := by
      by_cases hc : cs = []
      · exact hc
      · exact absurd (h2 hc) (by simp)
    have hrun := run_append_none_cap (w := w) B 49 o.type 3 i0 1 Tryz.underlying49 hi val l.length (rowV l) hown cap
    have hk := h val w (by rw [List.append_nil]; exact hown) (World.grownBy.refl _ _) (Below.refl _ _)
    rw [List.length_nil] at hx
    unfold Oper.wp
    simp [execOp, ho, resolve, invoke, builtin, hs, hx, hrun, Result.andThen]
    exact hk
  | some ad =>
    refine wp_append_own w s x 49 ho B 3 i0 _ 1 8 Tryz.underlying49 hi hz0 hz1 hz2 rfl (by decide) val l.length (rowV l) hs hown ad cs.length cap (rowV cs) hx (by simp [rowV]) (hcell ad rfl) (by simp [rowV, Value.oneCell']) (by unfold maxLen; omega) (by omega) hB ?_
    intro v' w' ho' hg' _
    refine h v' w' ?_ hg' (hown.below hg' hB)
    unfold OwnI
    rw [List.length_append]
    have : rowV (l ++ cs) = rowV l ++ rowV cs := by simp [rowV]
    rw [this]
    exact ho'
theorem wpList_copyR {ops : Array Oper} {rest : List Oper} {o : Oper} {a : Act} {w : World} {Q : Exit → Act → World → Prop} (hgd : o.guard = none) (s x : Operand)
    (ho : o.op = .call { callee := .builtin .append, args := #[s, x], argTypes := #[49, 49] })
    (B : Nat) (val : Value) (l : List Int) (hown : OwnI w B val l) (hs : a.eval s = val) (val2 : Value) (cs : List Int) (hsrc : ReadsI w val2 cs) (hx : a.eval x = val2) (hn : l.length + cs.length ≤ 3000000) (hB : B ≤ w.heap.size)
    (h : ∀ v2 w', OwnI w' B v2 (l ++ cs) → w.grownBy w' val.ownBlock → Below B w w' → wpList Tryz.prog ops Q rest (a.put o.dst v2) w') : wpList Tryz.prog ops Q (o :: rest) a w :=
  wpList_plain hgd fun _ hK => wp_copyR s x ho B val l hown hs val2 cs hsrc hx hn hB fun v2 w' h1 h2 h3 => hK _ _ (h v2 w' h1 h2 h3)
end Go.Proofs.YtabdgnigmlpeaaaGreatDoor
