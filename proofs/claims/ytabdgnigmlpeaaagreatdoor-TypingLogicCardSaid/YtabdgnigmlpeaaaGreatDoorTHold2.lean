/- holds, of all forms. -/
import Derived.Test.YtabdgnigmlpeaaaGreatDoorTHold
namespace Go.Proofs.YtabdgnigmlpeaaaGreatDoor
open Go.RowKit

set_option maxHeartbeats 1000000 in
theorem clos1_any (q : Bool) (y : Value) (x : En) (W : World) (B : Nat) (hE : EnvAt W B x) (h : Calls Tryz.prog 54 #[y, envV x] W fun e w' => e = .returned (.bool q) ∧ Below W.heap.size W w') :
    Calls Tryz.prog 119 #[y, .pointer (some ⟨B, 0, none⟩)] W fun e w' => e = .returned (.bool q) ∧ Below W.heap.size W w' := by
  obtain ⟨c0, c1, c2⟩ := hE
  have H := Lib.hid h
  clear h
  unfold envV at H
  obtain ⟨d, f, s⟩ := x
  simp only at *
  go_enter Tryz.func119, Tryz.ntmps119
  go_wp2_with (go_at_call 54; (with_reducible refine H.out.mono ?_); rintro e w1 ⟨rfl, hb⟩; have HB := Lib.hid hb; clear hb)
  go_ret
  exact ⟨rfl, HB.out⟩
set_option maxHeartbeats 1000000 in
theorem clos2_any (q : Bool) (y : Value) (x : En) (W : World) (B : Nat) (hE : EnvAt W B x) (h : Calls Tryz.prog 54 #[y, envV x] W fun e w' => e = .returned (.bool q) ∧ Below W.heap.size W w') :
    Calls Tryz.prog 121 #[y, .pointer (some ⟨B, 0, none⟩)] W fun e w' => e = .returned (.bool q) ∧ Below W.heap.size W w' := by
  obtain ⟨c0, c1, c2⟩ := hE
  have H := Lib.hid h
  clear h
  unfold envV at H
  obtain ⟨d, f, s⟩ := x
  simp only at *
  go_enter Tryz.func121, Tryz.ntmps121
  go_wp2_with (go_at_call 54; (with_reducible refine H.out.mono ?_); rintro e w1 ⟨rfl, hb⟩; have HB := Lib.hid hb; clear hb)
  go_ret
  exact ⟨rfl, HB.out⟩

/-- All forms of a list are asked, in order, by the closure. -/
theorem holdAll_any (l : List Fm) (p : Option Addr) (cap : Nat) (x : En) (W : World) (Q : Nat → Prop) (B : Nat) (hE : EnvAt W B x) (h : FsIn W Q l p cap) (hH : ∀ i (h : i < l.length) W' y, Below W.heap.size W W' → FmIn W' Q l[i] y → Calls Tryz.prog 54 #[y, envV x] W' fun e w' => e = .returned (.bool (holdF x l[i])) ∧ Below W'.heap.size W' w') :
    Calls Tryz.prog 118 #[.slice p l.length cap, .func (Fn.func 119) #[] #[.pointer (some ⟨B, 0, none⟩)]] W fun e w' => e = .returned (.bool (holdA x l)) ∧ Below W.heap.size W w' := by
  obtain ⟨b, off, hL, hAt⟩ := h
  have hV : ∀ j (h : j < l.length), W.cell? ⟨b, off + j, none⟩ = some ((W.cell? ⟨b, off + j, none⟩).getD undef) ∧ FmIn W Q l[j] ((W.cell? ⟨b, off + j, none⟩).getD undef) := fun j hj => by
    obtain ⟨y, h1, h2⟩ := FsAt.get l off hAt j hj
    rw [h1]
    exact ⟨rfl, h2⟩
  have hk : ∀ (s : Unit) W' W'', (fun (_ : Unit) W' => Below W.heap.size W W') s W' → Below W'.heap.size W' W'' → (fun (_ : Unit) W' => Below W.heap.size W W') s W'' := fun _ _ _ h1 h2 => h1.trans (h2.mono h1.size)
  have H := all_form (fun (s : Unit) f => (holdF x f, s)) (fun _ W' => Below W.heap.size W W') (fun _ => True) (Fn.func 119) #[] #[.pointer (some ⟨B, 0, none⟩)] (W.heap.size + 1) l (fun j => (W.cell? ⟨b, off + j, none⟩).getD undef) p b off cap
    (fun hne => (hL.hb (by simpa using hne)).1) hL.hl (fun s W' j hW hj => keepc hW (hV j hj).1) (fun _ _ _ _ _ => trivial)
    (all1_form (fun (s : Unit) f => (holdF x f, s)) (fun _ W' => Below W.heap.size W W') (fun _ => True) (W.heap.size + 1) 119 #[.pointer (some ⟨B, 0, none⟩)] (enters_of Tryz.func119 (by kernel_rfl) rfl) l (fun j => (W.cell? ⟨b, off + j, none⟩).getD undef) hk
      fun s W' j hj _ hW => (clos1_any (holdF x l[j]) _ x W' B (hE.bel hW) (hH j hj W' _ hW ((hV j hj).2.bel hW))).mono fun e w' hr => ⟨hr.1, hW.trans (hr.2.mono hW.size), Kp.bel hr.2⟩)
    hk () W (by omega) trivial (Below.refl _ _)
  rw [allS_pure, ← holdA_eq] at H
  exact H.mono fun e w' hr => ⟨hr.1, hr.2.1⟩
theorem holdOne_any (l : List Fm) (p : Option Addr) (cap : Nat) (x : En) (W : World) (Q : Nat → Prop) (B : Nat) (hE : EnvAt W B x) (h : FsIn W Q l p cap) (hH : ∀ i (h : i < l.length) W' y, Below W.heap.size W W' → FmIn W' Q l[i] y → Calls Tryz.prog 54 #[y, envV x] W' fun e w' => e = .returned (.bool (holdF x l[i])) ∧ Below W'.heap.size W' w') :
    Calls Tryz.prog 120 #[.slice p l.length cap, .func (Fn.func 121) #[] #[.pointer (some ⟨B, 0, none⟩)]] W fun e w' => e = .returned (.bool (holdO x l)) ∧ Below W.heap.size W w' := by
  obtain ⟨b, off, hL, hAt⟩ := h
  have hV : ∀ j (h : j < l.length), W.cell? ⟨b, off + j, none⟩ = some ((W.cell? ⟨b, off + j, none⟩).getD undef) ∧ FmIn W Q l[j] ((W.cell? ⟨b, off + j, none⟩).getD undef) := fun j hj => by
    obtain ⟨y, h1, h2⟩ := FsAt.get l off hAt j hj
    rw [h1]
    exact ⟨rfl, h2⟩
  have H := contains_form (fun (s : Unit) f => (holdF x f, s)) (fun _ W' => Below W.heap.size W W') (fun _ => True) 121 #[.pointer (some ⟨B, 0, none⟩)] (enters_of Tryz.func121 (by kernel_rfl) rfl) l (fun j => (W.cell? ⟨b, off + j, none⟩).getD undef) p b off cap
    (fun hne => (hL.hb (by simpa using hne)).1) hL.hl (fun s W' j hW hj => keepc hW (hV j hj).1) (fun _ _ _ _ _ => trivial)
    (fun s W' j hj _ hW => (clos2_any (holdF x l[j]) _ x W' B (hE.bel hW) (hH j hj W' _ hW ((hV j hj).2.bel hW))).mono fun e w' hr => ⟨hr.1, hW.trans (hr.2.mono hW.size)⟩)
    () W trivial (Below.refl _ _)
  rw [anyS_pure, ← holdO_eq] at H
  exact H

set_option maxHeartbeats 4000000 in
set_option maxRecDepth 100000 in
theorem hold_all (l : List Fm) (p : Option Addr) (cap : Nat) (x : En) (W : World) (Q : Nat → Prop) (h : FsIn W Q l p cap) (hH : ∀ i (h : i < l.length) W' y, Below W.heap.size W W' → FmIn W' Q l[i] y → Calls Tryz.prog 54 #[y, envV x] W' fun e w' => e = .returned (.bool (holdF x l[i])) ∧ Below W'.heap.size W' w') :
    Calls Tryz.prog 54 #[.iface 176 (.agg #[.slice p l.length cap]), envV x] W fun e w' => e = .returned (.bool (holdA x l)) ∧ Below W.heap.size W w' := by
  have hA := (Below.refl W.heap.size W).alloc (Nat.le_refl _) (.cells #[.int .i64 x.d, .int .i64 x.f, .int .i64 x.s] 42)
  have hA2 := hA.alloc hA.size (.cells #[.slice p l.length cap] 176)
  have hE := (EnvAt.new W x).bel ((Below.refl _ _).alloc (Nat.le_refl _) (.cells #[.slice p l.length cap] 176))
  have H := Lib.hid (holdAll_any l p cap x _ Q W.heap.size hE (h.bel hA2) fun i hi W' y hb hf => hH i hi W' y (hA2.trans (hb.mono hA2.size)) hf)
  have HA := Lib.hid hA2
  clear h hH hA hA2 hE
  unfold envV
  generalize holdA x l = q at *
  generalize l.length = n at *
  obtain ⟨d, f, s⟩ := x
  simp only at *
  have t_atLeast := ta_allOf_atLeast
  have t_allOf := ta_allOf_allOf
  have hmf : ∀ (fn : Fn) (first cap : Array Value) (w : World), (Instr.makeFunc fn first cap).run Tryz.prog w = .ok (.func fn first cap) w := fun _ _ _ _ => rfl
  go_enter Tryz.func54, Tryz.ntmps54
  go_wp2_with (go_at_call 118; (with_reducible refine H.out.mono ?_); rintro e w1 ⟨rfl, hb⟩; have HB := Lib.hid (HA.out.trans (hb.mono HA.out.size)); clear hb)
  go_ret
  exact ⟨rfl, HB.out⟩

set_option maxHeartbeats 4000000 in
set_option maxRecDepth 100000 in
theorem hold_one (l : List Fm) (p : Option Addr) (cap : Nat) (x : En) (W : World) (Q : Nat → Prop) (h : FsIn W Q l p cap) (hH : ∀ i (h : i < l.length) W' y, Below W.heap.size W W' → FmIn W' Q l[i] y → Calls Tryz.prog 54 #[y, envV x] W' fun e w' => e = .returned (.bool (holdF x l[i])) ∧ Below W'.heap.size W' w') :
    Calls Tryz.prog 54 #[.iface 179 (.agg #[.slice p l.length cap]), envV x] W fun e w' => e = .returned (.bool (holdO x l)) ∧ Below W.heap.size W w' := by
  have hA := (Below.refl W.heap.size W).alloc (Nat.le_refl _) (.cells #[.int .i64 x.d, .int .i64 x.f, .int .i64 x.s] 42)
  have hA2 := hA.alloc hA.size (.cells #[.slice p l.length cap] 179)
  have hE := (EnvAt.new W x).bel ((Below.refl _ _).alloc (Nat.le_refl _) (.cells #[.slice p l.length cap] 179))
  have H := Lib.hid (holdOne_any l p cap x _ Q W.heap.size hE (h.bel hA2) fun i hi W' y hb hf => hH i hi W' y (hA2.trans (hb.mono hA2.size)) hf)
  have HA := Lib.hid hA2
  clear h hH hA hA2 hE
  unfold envV
  generalize holdO x l = q at *
  generalize l.length = n at *
  obtain ⟨d, f, s⟩ := x
  simp only at *
  have t_atLeast := ta_oneOf_atLeast
  have t_allOf := ta_oneOf_allOf
  have t_oneOf := ta_oneOf_oneOf
  have hmf : ∀ (fn : Fn) (first cap : Array Value) (w : World), (Instr.makeFunc fn first cap).run Tryz.prog w = .ok (.func fn first cap) w := fun _ _ _ _ => rfl
  go_enter Tryz.func54, Tryz.ntmps54
  go_wp2_with (go_at_call 120; (with_reducible refine H.out.mono ?_); rintro e w1 ⟨rfl, hb⟩; have HB := Lib.hid (HA.out.trans (hb.mono HA.out.size)); clear hb)
  go_ret
  exact ⟨rfl, HB.out⟩

set_option maxHeartbeats 4000000 in
set_option maxRecDepth 100000 in
theorem hold_neg (q : Bool) (t : TypeId) (v : Value) (x : En) (W : World) (hH : ∀ W', Below W.heap.size W W' → Calls Tryz.prog 54 #[.iface t v, envV x] W' fun e w' => e = .returned (.bool q) ∧ Below W'.heap.size W' w') :
    Calls Tryz.prog 54 #[.iface 181 (.agg #[.iface t v]), envV x] W fun e w' => e = .returned (.bool (!q)) ∧ Below W.heap.size W w' := by
  have hA := (Below.refl W.heap.size W).alloc (Nat.le_refl _) (.cells #[.int .i64 x.d, .int .i64 x.f, .int .i64 x.s] 42)
  have hA2 := hA.alloc hA.size (.cells #[.iface t v] 181)
  have H := Lib.hid (hH _ hA2)
  have HA := Lib.hid hA2
  clear hH hA hA2
  unfold envV at *
  obtain ⟨d, f, s⟩ := x
  simp only at *
  have t_1 := ta_negation_atLeast
  have t_2 := ta_negation_allOf
  have t_3 := ta_negation_oneOf
  have t_4 := ta_negation_negation
  go_enter Tryz.func54, Tryz.ntmps54
  go_wp2_with (go_at_call 54; (with_reducible refine H.out.mono ?_); rintro e w1 ⟨rfl, hb⟩; have HB := Lib.hid (HA.out.trans (hb.mono HA.out.size)); clear hb)
  go_ret
  exact ⟨rfl, HB.out⟩

set_option maxHeartbeats 4000000 in
set_option maxRecDepth 100000 in
theorem hold_criterion (a : Array Value) (x : En) (W : World) : Calls Tryz.prog 54 #[.iface 167 (.agg a), envV x] W fun e w' => e = .returned (.bool false) ∧ Below W.heap.size W w' := by
  have HA := Lib.hid ((Below.refl W.heap.size W).alloc (Nat.le_refl _) (.cells #[.int .i64 x.d, .int .i64 x.f, .int .i64 x.s] 42))
  unfold envV at *
  obtain ⟨d, f, s⟩ := x
  simp only at *
  have t_1 := ta_criterion_atLeast
  have t_2 := ta_criterion_allOf
  have t_3 := ta_criterion_oneOf
  have t_4 := ta_criterion_negation
  go_enter Tryz.func54, Tryz.ntmps54
  go_wp2_with fail
  go_ret
  exact ⟨rfl, HA.out⟩

set_option maxHeartbeats 4000000 in
set_option maxRecDepth 100000 in
theorem hold_branch (a : Array Value) (x : En) (W : World) : Calls Tryz.prog 54 #[.iface 169 (.agg a), envV x] W fun e w' => e = .returned (.bool false) ∧ Below W.heap.size W w' := by
  have HA := Lib.hid ((Below.refl W.heap.size W).alloc (Nat.le_refl _) (.cells #[.int .i64 x.d, .int .i64 x.f, .int .i64 x.s] 42))
  unfold envV at *
  obtain ⟨d, f, s⟩ := x
  simp only at *
  have t_1 := ta_branch_atLeast
  have t_2 := ta_branch_allOf
  have t_3 := ta_branch_oneOf
  have t_4 := ta_branch_negation
  go_enter Tryz.func54, Tryz.ntmps54
  go_wp2_with fail
  go_ret
  exact ⟨rfl, HA.out⟩

set_option maxHeartbeats 4000000 in
set_option maxRecDepth 100000 in
theorem hold_misfit (a : Array Value) (x : En) (W : World) : Calls Tryz.prog 54 #[.iface 213 (.agg a), envV x] W fun e w' => e = .returned (.bool false) ∧ Below W.heap.size W w' := by
  have HA := Lib.hid ((Below.refl W.heap.size W).alloc (Nat.le_refl _) (.cells #[.int .i64 x.d, .int .i64 x.f, .int .i64 x.s] 42))
  unfold envV at *
  obtain ⟨d, f, s⟩ := x
  simp only at *
  have t_1 := ta_misfit_atLeast
  have t_2 := ta_misfit_allOf
  have t_3 := ta_misfit_oneOf
  have t_4 := ta_misfit_negation
  go_enter Tryz.func54, Tryz.ntmps54
  go_wp2_with fail
  go_ret
  exact ⟨rfl, HA.out⟩

mutual
theorem hold_any (x : En) (Q : Nat → Prop) : ∀ (f : Fm) (W : World) (y : Value), rngF f = true → FmIn W Q f y → Calls Tryz.prog 54 #[y, envV x] W fun e w' => e = .returned (.bool (holdF x f)) ∧ Below W.heap.size W w'
  | .atl v n, W, y, hr, h => by
    rw [FmIn] at h
    subst h
    rw [rngF, Bool.and_eq_true] at hr
    rw [holdF]
    exact hold_atl v n (by simpa using hr.1) x W
  | .all l, W, y, hr, h => by
    rw [FmIn] at h
    obtain ⟨p, cap, b, off, rfl, hL, hAt⟩ := h
    rw [rngF, Bool.and_eq_true] at hr
    rw [holdF]
    exact hold_all l p cap x W Q ⟨b, off, hL, hAt⟩ fun i hi W' y _ hf => holds_all x Q l hr.2 i hi W' y hf
  | .one l, W, y, hr, h => by
    rw [FmIn] at h
    obtain ⟨p, cap, b, off, rfl, hL, hAt⟩ := h
    rw [rngF, Bool.and_eq_true] at hr
    rw [holdF]
    exact hold_one l p cap x W Q ⟨b, off, hL, hAt⟩ fun i hi W' y _ hf => holds_all x Q l hr.2 i hi W' y hf
  | .neg f, W, y, hr, h => by
    rw [FmIn] at h
    obtain ⟨y, rfl, hf⟩ := h
    rw [rngF] at hr
    rw [holdF]
    obtain ⟨t, v, rfl⟩ := hf.iface
    exact hold_neg (holdF x f) t v x W fun W' hb => hold_any x Q f W' _ hr (hf.bel hb)
  | .crit b, W, y, _, h => by
    rw [FmIn] at h
    subst h
    rw [holdF]
    exact hold_criterion _ x W
  | .bran c th el, W, y, _, h => by
    rw [FmIn] at h
    obtain ⟨_, _, _, _, _, _, _, _, _, rfl, _⟩ := h
    rw [holdF]
    exact hold_branch _ x W
  | .mis, W, y, _, h => by
    rw [FmIn] at h
    subst h
    rw [holdF]
    exact hold_misfit _ x W
theorem holds_all (x : En) (Q : Nat → Prop) : ∀ (l : List Fm), rngFs l = true → ∀ (i : Nat) (h : i < l.length) (W : World) (y : Value), FmIn W Q l[i] y → Calls Tryz.prog 54 #[y, envV x] W fun e w' => e = .returned (.bool (holdF x l[i])) ∧ Below W.heap.size W w'
  | [], _, i, h, _, _, _ => absurd h (by simp)
  | f :: l, hr, 0, _, W, y, hf => hold_any x Q f W y (by rw [rngFs, Bool.and_eq_true] at hr; exact hr.1) hf
  | f :: l, hr, i + 1, h, W, y, hf => holds_all x Q l (by rw [rngFs, Bool.and_eq_true] at hr; exact hr.2) i (by simpa using h) W y hf
end
end Go.Proofs.YtabdgnigmlpeaaaGreatDoor
