/- inRange of forms. -/
import Derived.Test.YtabdgnigmlpeaaaGreatDoorTCForm2
import Derived.Test.YtabdgnigmlpeaaaGreatDoorTAllform
namespace Go.Proofs.YtabdgnigmlpeaaaGreatDoor
open Go.RowKit

def RPost (f : Fm) (W : World) (e : Ending) (w' : World) : Prop := e = .returned (.bool (rngF f)) ∧ Below W.heap.size W w'
/-- What a call of inRange comes to, by the form's type. -/
def RC (f : Fm) (x : Value) (W : World) : Prop :=
  (∃ a, x = .iface 173 (.agg a) ∧ Calls Tryz.prog 246 #[.agg a] W (RPost f W)) ∨
  (∃ a, x = .iface 176 (.agg a) ∧ Calls Tryz.prog 247 #[.agg a] W (RPost f W)) ∨
  (∃ a, x = .iface 179 (.agg a) ∧ Calls Tryz.prog 249 #[.agg a] W (RPost f W)) ∨
  (∃ a, x = .iface 181 (.agg a) ∧ Calls Tryz.prog 250 #[.agg a] W (RPost f W)) ∨
  (∃ a, x = .iface 167 (.agg a) ∧ Calls Tryz.prog 244 #[.agg a] W (RPost f W)) ∨
  (∃ a, x = .iface 169 (.agg a) ∧ Calls Tryz.prog 245 #[.agg a] W (RPost f W)) ∨
  (∃ a, x = .iface 213 (.agg a) ∧ Calls Tryz.prog 251 #[.agg a] W (RPost f W))

set_option maxHeartbeats 4000000 in
theorem all1m_form (f : Fm) (x : Value) (W : World) (B : Nat) (hx : RC f x W) (hc : W.cell? ⟨B, 0, none⟩ = some (.func (Fn.methodOf 94 "stopwatch/typing.inRange") #[] #[])) :
    Calls Tryz.prog 179 #[x, .pointer (some ⟨B, 0, none⟩)] W fun e w' => e = .returned (.bool (!rngF f)) ∧ Below W.heap.size W w' := by
  unfold RC RPost at hx
  generalize rngF f = q at *
  rcases hx with ⟨a, rfl, hC⟩ | ⟨a, rfl, hC⟩ | ⟨a, rfl, hC⟩ | ⟨a, rfl, hC⟩ | ⟨a, rfl, hC⟩ | ⟨a, rfl, hC⟩ | ⟨a, rfl, hC⟩
  all_goals
    have HC := Lib.hid hC
    clear hC
    go_enter Tryz.func179, Tryz.ntmps179
    go_wp2_with fail
    (with_reducible refine HC.out.mono ?_)
    rintro e w1 ⟨rfl, hb⟩
    have HB := Lib.hid hb
    clear hb
    go_wp2_with fail
    go_ret
    exact ⟨rfl, HB.out⟩
theorem allm_form (l : List Fm) (p : Option Addr) (cap : Nat) (W : World) (Q : Nat → Prop) (h : FsIn W Q l p cap) (hRC : ∀ i (h : i < l.length) W' x, Below W.heap.size W W' → FmIn W' Q l[i] x → RC l[i] x W') :
    Calls Tryz.prog 118 #[.slice p l.length cap, .func (Fn.methodOf 94 "stopwatch/typing.inRange") #[] #[]] W fun e w' => e = .returned (.bool (rngFs l)) ∧ Below W.heap.size W w' := by
  obtain ⟨b, off, hL, hAt⟩ := h
  have hV : ∀ j (h : j < l.length), W.cell? ⟨b, off + j, none⟩ = some ((W.cell? ⟨b, off + j, none⟩).getD undef) ∧ FmIn W Q l[j] ((W.cell? ⟨b, off + j, none⟩).getD undef) := fun j hj => by
    obtain ⟨y, h1, h2⟩ := FsAt.get l off hAt j hj
    rw [h1]
    exact ⟨rfl, h2⟩
  have H := all_form (fun (s : Unit) f => (rngF f, s)) (fun _ W' => Below W.heap.size W W') (fun _ => True) (Fn.methodOf 94 "stopwatch/typing.inRange") #[] #[] (W.heap.size + 1) l (fun j => (W.cell? ⟨b, off + j, none⟩).getD undef) p b off cap
    (fun hne => (hL.hb (by simpa using hne)).1) hL.hl (fun s W' j hW hj => keepc hW (hV j hj).1) (fun _ _ _ _ _ => trivial)
    (fun B s W' j hj _ hW hc hB => (all1m_form l[j] _ W' B (hRC j hj W' _ hW ((hV j hj).2.bel hW)) hc).mono fun e w' hr => ⟨hr.1, hW.trans (hr.2.mono hW.size), Kp.bel hr.2⟩)
    (fun _ _ _ h1 h2 => h1.trans (h2.mono h1.size)) () W (by omega) trivial (Below.refl _ _)
  rw [allS_pure, ← rngFs_eq] at H
  exact H.mono fun e w' hr => ⟨hr.1, hr.2.1⟩

set_option maxHeartbeats 1000000 in
theorem joined_any (l : List Fm) (p : Option Addr) (cap : Nat) (W : World) (Q : Nat → Prop) (h : FsIn W Q l p cap) (hRC : ∀ i (h : i < l.length) W' x, Below W.heap.size W W' → FmIn W' Q l[i] x → RC l[i] x W') :
    Calls Tryz.prog 248 #[.slice p l.length cap] W fun e w' => e = .returned (.bool (decide (1 ≤ l.length ∧ l.length ≤ 16) && rngFs l)) ∧ Below W.heap.size W w' := by
  have H1 := Lib.hid (fun W => within1L_any 1 16 (l.length : Int) 1 W)
  have hq : decide (1 ≤ l.length ∧ l.length ≤ 16) = inI 1 16 (l.length : Int) := by unfold inI; rw [Bool.eq_iff_iff]; simp; omega
  have H2 : Hid (∀ W2, Below W.heap.size W W2 → Calls Tryz.prog 118 #[.slice p l.length cap, .func (Fn.methodOf 94 "stopwatch/typing.inRange") #[] #[]] W2 fun e w' => e = .returned (.bool (rngFs l)) ∧ Below W2.heap.size W2 w') := Lib.hid fun W2 hb2 =>
    allm_form l p cap W2 Q (h.bel hb2) fun i hi W' x hb' hf => hRC i hi W' x (hb2.trans (hb'.mono hb2.size)) hf
  rw [hq]
  have hl : l.length ≤ 6000000000000 := by obtain ⟨b, off, hL, _⟩ := h; exact hL.hl
  clear hRC h hq
  have HB0 := Lib.hid (Below.refl W.heap.size W)
  generalize inI 1 16 (l.length : Int) = q1 at *
  generalize rngFs l = q2 at *
  generalize l.length = n at *
  have hmf : ∀ (fn : Fn) (first cap : Array Value) (w : World), (Instr.makeFunc fn first cap).run Tryz.prog w = .ok (.func fn first cap) w := fun _ _ _ _ => rfl
  cases q1 with
  | false =>
    go_enter Tryz.func248, Tryz.ntmps248
    go_wp2_with (go_at_call 51; (with_reducible refine (H1.out _ _ (by simp)).mono ?_); rintro e w1 ⟨rfl, hb⟩; have HB1 := Lib.hid (HB0.out.trans (hb.mono HB0.out.size)); clear hb)
    go_ret
    exact ⟨rfl, HB1.out⟩
  | true =>
    go_enter Tryz.func248, Tryz.ntmps248
    go_wp2_with (first | (go_at_call 51; (with_reducible refine (H1.out _ _ (by simp)).mono ?_); rintro e w1 ⟨rfl, hb⟩; have HB1 := Lib.hid (HB0.out.trans (hb.mono HB0.out.size)); clear hb) | (go_at_call 118; (with_reducible refine (H2.out _ HB1.out).mono ?_); rintro e w2 ⟨rfl, hb⟩; have HB2 := Lib.hid (HB1.out.trans (hb.mono HB1.out.size)); clear hb))
    go_ret
    exact ⟨by cases q2 <;> rfl, HB2.out⟩
set_option maxHeartbeats 1000000 in
theorem stepsR_any (l : List Fm) (p : Option Addr) (cap : Nat) (W : World) (Q : Nat → Prop) (h : FsIn W Q l p cap) (hRC : ∀ i (h : i < l.length) W' x, Below W.heap.size W W' → FmIn W' Q l[i] x → RC l[i] x W') :
    Calls Tryz.prog 111 #[.slice p l.length cap] W fun e w' => e = .returned (.bool (!l.isEmpty && rngFs l)) ∧ Below W.heap.size W w' := by
  have H2 : Hid (∀ W2, Below W.heap.size W W2 → Calls Tryz.prog 118 #[.slice p l.length cap, .func (Fn.methodOf 94 "stopwatch/typing.inRange") #[] #[]] W2 fun e w' => e = .returned (.bool (rngFs l)) ∧ Below W2.heap.size W2 w') := Lib.hid fun W2 hb2 =>
    allm_form l p cap W2 Q (h.bel hb2) fun i hi W' x hb' hf => hRC i hi W' x (hb2.trans (hb'.mono hb2.size)) hf
  clear hRC h
  have HB0 := Lib.hid (Below.refl W.heap.size W)
  generalize rngFs l = q2 at *
  have hmf : ∀ (fn : Fn) (first cap : Array Value) (w : World), (Instr.makeFunc fn first cap).run Tryz.prog w = .ok (.func fn first cap) w := fun _ _ _ _ => rfl
  by_cases hl : l = []
  · subst hl
    show Calls Tryz.prog 111 #[.slice p 0 cap] W _
    clear H2
    go_enter Tryz.func111, Tryz.ntmps111
    go_wp2_with fail
    go_ret
    exact ⟨rfl, HB0.out⟩
  · have hn : (0 : Int) < (l.length : Int) := by have := List.length_pos_iff.2 hl; omega
    have he : l.isEmpty = false := by simpa using hl
    rw [he]
    clear hl he
    generalize l.length = n at *
    go_enter Tryz.func111, Tryz.ntmps111
    go_wp2_with (go_at_call 118; (with_reducible refine (H2.out _ HB0.out).mono ?_); rintro e w2 ⟨rfl, hb⟩; have HB2 := Lib.hid (HB0.out.trans (hb.mono HB0.out.size)); clear hb)
    go_ret
    exact ⟨by cases q2 <;> rfl, HB2.out⟩
set_option maxHeartbeats 1000000 in
theorem rng_allOf (l : List Fm) (p : Option Addr) (cap : Nat) (W : World) (Q : Nat → Prop) (h : FsIn W Q l p cap) (hRC : ∀ i (h : i < l.length) W' x, Below W.heap.size W W' → FmIn W' Q l[i] x → RC l[i] x W') :
    Calls Tryz.prog 247 #[.agg #[.slice p l.length cap]] W fun e w' => e = .returned (.bool (decide (1 ≤ l.length ∧ l.length ≤ 16) && rngFs l)) ∧ Below W.heap.size W w' := by
  have hA := (Below.refl W.heap.size W).alloc (Nat.le_refl _) (.cells #[.slice p l.length cap] 176)
  have H := Lib.hid (joined_any l p cap _ Q (h.bel hA) fun i hi W' x hb' hf => hRC i hi W' x (hA.trans (hb'.mono hA.size)) hf)
  have HA := Lib.hid hA
  clear hRC h hA
  generalize (decide (1 ≤ l.length ∧ l.length ≤ 16) && rngFs l) = q at *
  generalize l.length = n at *
  go_enter Tryz.func247, Tryz.ntmps247
  go_wp2_with (go_at_call 248; (with_reducible refine H.out.mono ?_); rintro e w2 ⟨rfl, hb⟩; have HB2 := Lib.hid (HA.out.trans (hb.mono HA.out.size)); clear hb)
  go_ret
  exact ⟨rfl, HB2.out⟩
set_option maxHeartbeats 1000000 in
theorem rng_oneOf (l : List Fm) (p : Option Addr) (cap : Nat) (W : World) (Q : Nat → Prop) (h : FsIn W Q l p cap) (hRC : ∀ i (h : i < l.length) W' x, Below W.heap.size W W' → FmIn W' Q l[i] x → RC l[i] x W') :
    Calls Tryz.prog 249 #[.agg #[.slice p l.length cap]] W fun e w' => e = .returned (.bool (decide (1 ≤ l.length ∧ l.length ≤ 16) && rngFs l)) ∧ Below W.heap.size W w' := by
  have hA := (Below.refl W.heap.size W).alloc (Nat.le_refl _) (.cells #[.slice p l.length cap] 179)
  have H := Lib.hid (joined_any l p cap _ Q (h.bel hA) fun i hi W' x hb' hf => hRC i hi W' x (hA.trans (hb'.mono hA.size)) hf)
  have HA := Lib.hid hA
  clear hRC h hA
  generalize (decide (1 ≤ l.length ∧ l.length ≤ 16) && rngFs l) = q at *
  generalize l.length = n at *
  go_enter Tryz.func249, Tryz.ntmps249
  go_wp2_with (go_at_call 248; (with_reducible refine H.out.mono ?_); rintro e w2 ⟨rfl, hb⟩; have HB2 := Lib.hid (HA.out.trans (hb.mono HA.out.size)); clear hb)
  go_ret
  exact ⟨rfl, HB2.out⟩
set_option maxHeartbeats 2000000 in
theorem rng_neg (f : Fm) (y : Value) (W : World) (hRC : ∀ W', Below W.heap.size W W' → RC f y W') :
    Calls Tryz.prog 250 #[.agg #[y]] W fun e w' => e = .returned (.bool (rngF f)) ∧ Below W.heap.size W w' := by
  have hA := (Below.refl W.heap.size W).alloc (Nat.le_refl _) (.cells #[y] 181)
  have HA := Lib.hid hA
  have hx := hRC _ hA
  clear hRC hA
  unfold RC RPost at hx
  generalize rngF f = q at *
  rcases hx with ⟨a, rfl, hC⟩ | ⟨a, rfl, hC⟩ | ⟨a, rfl, hC⟩ | ⟨a, rfl, hC⟩ | ⟨a, rfl, hC⟩ | ⟨a, rfl, hC⟩ | ⟨a, rfl, hC⟩
  all_goals
    have HC := Lib.hid hC
    clear hC
    go_enter Tryz.func250, Tryz.ntmps250
    go_wp2_with fail
    (with_reducible refine HC.out.mono ?_)
    rintro e w1 ⟨rfl, hb⟩
    have HB := Lib.hid (HA.out.trans (hb.mono HA.out.size))
    clear hb
    go_wp2_with fail
    go_ret
    exact ⟨rfl, HB.out⟩
end Go.Proofs.YtabdgnigmlpeaaaGreatDoor
