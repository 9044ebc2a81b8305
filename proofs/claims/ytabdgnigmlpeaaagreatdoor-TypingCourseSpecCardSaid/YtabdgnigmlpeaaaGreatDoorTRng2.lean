/- inRange of all forms. -/
import Derived.Test.YtabdgnigmlpeaaaGreatDoorTRng
namespace Go.Proofs.YtabdgnigmlpeaaaGreatDoor
open Go.RowKit

set_option maxHeartbeats 8000000 in
theorem rng_bran (c : Fm) (y : Value) (th el : List Fm) (p p2 : Option Addr) (cap cap2 : Nat) (W : World) (Q : Nat → Prop) (hy : FmIn W Q c y) (h1 : FsIn W Q th p cap) (h2 : FsIn W Q el p2 cap2) (hRC : ∀ W' x, Below W.heap.size W W' → FmIn W' Q c x → RC c x W')
    (hRC1 : ∀ i (h : i < th.length) W' x, Below W.heap.size W W' → FmIn W' Q th[i] x → RC th[i] x W') (hRC2 : ∀ i (h : i < el.length) W' x, Below W.heap.size W W' → FmIn W' Q el[i] x → RC el[i] x W') :
    Calls Tryz.prog 245 #[.agg #[y, .slice p th.length cap, .slice p2 el.length cap2]] W fun e w' => e = .returned (.bool (rngF c && (!th.isEmpty && rngFs th) && rngFs el)) ∧ Below W.heap.size W w' := by
  have hA := (Below.refl W.heap.size W).alloc (Nat.le_refl _) (.cells #[y, .slice p th.length cap, .slice p2 el.length cap2] 169)
  have HS1 : Hid (∀ W2, Below W.heap.size W W2 → Calls Tryz.prog 111 #[.slice p th.length cap] W2 fun e w' => e = .returned (.bool (!th.isEmpty && rngFs th)) ∧ Below W2.heap.size W2 w') := Lib.hid fun W2 hb2 =>
    stepsR_any th p cap W2 Q (h1.bel hb2) fun i hi W' x hb' hf => hRC1 i hi W' x (hb2.trans (hb'.mono hb2.size)) hf
  have HS2 : Hid (∀ W2, Below W.heap.size W W2 → Calls Tryz.prog 118 #[.slice p2 el.length cap2, .func (Fn.methodOf 94 "stopwatch/typing.inRange") #[] #[]] W2 fun e w' => e = .returned (.bool (rngFs el)) ∧ Below W2.heap.size W2 w') := Lib.hid fun W2 hb2 =>
    allm_form el p2 cap2 W2 Q (h2.bel hb2) fun i hi W' x hb' hf => hRC2 i hi W' x (hb2.trans (hb'.mono hb2.size)) hf
  have HA := Lib.hid hA
  have hx := hRC _ y hA (hy.bel hA)
  clear hRC hRC1 hRC2 hA hy h1 h2
  unfold RC RPost at hx
  generalize rngF c = q1 at *
  generalize (!th.isEmpty && rngFs th) = q2 at *
  generalize rngFs el = q3 at *
  generalize th.length = n1 at *
  generalize el.length = n2 at *
  have hmf : ∀ (fn : Fn) (first cap : Array Value) (w : World), (Instr.makeFunc fn first cap).run Tryz.prog w = .ok (.func fn first cap) w := fun _ _ _ _ => rfl
  rcases hx with ⟨a, rfl, hC⟩ | ⟨a, rfl, hC⟩ | ⟨a, rfl, hC⟩ | ⟨a, rfl, hC⟩ | ⟨a, rfl, hC⟩ | ⟨a, rfl, hC⟩ | ⟨a, rfl, hC⟩
  all_goals
    have HC := Lib.hid hC
    clear hC
    cases q1 with
    | false =>
      go_enter Tryz.func245, Tryz.ntmps245
      go_wp2_with fail
      (with_reducible refine HC.out.mono ?_)
      rintro e w1 ⟨rfl, hb⟩
      have HB := Lib.hid (HA.out.trans (hb.mono HA.out.size))
      clear hb
      go_wp2_with fail
      go_ret
      exact ⟨rfl, HB.out⟩
    | true =>
      cases q2 with
      | false =>
        go_enter Tryz.func245, Tryz.ntmps245
        go_wp2_with fail
        (with_reducible refine HC.out.mono ?_)
        rintro e w1 ⟨rfl, hb⟩
        have HB := Lib.hid (HA.out.trans (hb.mono HA.out.size))
        have c1 : w1.cell? ⟨W.heap.size, 1, none⟩ = some (.slice p n1 cap) := keepc hb (by simp [go_sem])
        clear hb
        go_wp2_with (go_at_call 111; (with_reducible refine (HS1.out _ HB.out).mono ?_); rintro e w2 ⟨rfl, hb⟩; have HB2 := Lib.hid (HB.out.trans (hb.mono HB.out.size)); clear hb)
        go_ret
        exact ⟨rfl, HB2.out⟩
      | true =>
        go_enter Tryz.func245, Tryz.ntmps245
        go_wp2_with fail
        (with_reducible refine HC.out.mono ?_)
        rintro e w1 ⟨rfl, hb⟩
        have HB := Lib.hid (HA.out.trans (hb.mono HA.out.size))
        have c1 : w1.cell? ⟨W.heap.size, 1, none⟩ = some (.slice p n1 cap) := keepc hb (by simp [go_sem])
        have c2 : w1.cell? ⟨W.heap.size, 2, none⟩ = some (.slice p2 n2 cap2) := keepc hb (by simp [go_sem])
        clear hb
        go_wp2_with fail
        go_at_call 111
        (with_reducible refine (HS1.out _ HB.out).mono ?_)
        rintro e w2 ⟨rfl, hb⟩
        have HB2 := Lib.hid (HB.out.trans (hb.mono HB.out.size))
        have c3 : w2.cell? ⟨W.heap.size, 2, none⟩ = some (.slice p2 n2 cap2) := keepc hb c2
        clear hb
        go_wp2_with (go_at_call 118; (with_reducible refine (HS2.out _ HB2.out).mono ?_); rintro e w2 ⟨rfl, hb⟩; have HB3 := Lib.hid (HB2.out.trans (hb.mono HB2.out.size)); clear hb)
        go_ret
        exact ⟨rfl, HB3.out⟩

mutual
theorem rc_any (Q : Nat → Prop) : ∀ (f : Fm) (W : World) (x : Value), FmIn W Q f x → RC f x W
  | .atl v n, W, x, h => by
    rw [FmIn] at h
    exact .inl ⟨_, h, rngAtl_any v n W⟩
  | .all l, W, x, h => by
    rw [FmIn] at h
    obtain ⟨p, cap, b, off, e, hL, hAt⟩ := h
    refine .inr (.inl ⟨_, e, ?_⟩)
    unfold RPost
    rw [rngF]
    exact rng_allOf l p cap W Q ⟨b, off, hL, hAt⟩ fun i hi W' x _ hf => rcs_any Q l i hi W' x hf
  | .one l, W, x, h => by
    rw [FmIn] at h
    obtain ⟨p, cap, b, off, e, hL, hAt⟩ := h
    refine .inr (.inr (.inl ⟨_, e, ?_⟩))
    unfold RPost
    rw [rngF]
    exact rng_oneOf l p cap W Q ⟨b, off, hL, hAt⟩ fun i hi W' x _ hf => rcs_any Q l i hi W' x hf
  | .neg f, W, x, h => by
    rw [FmIn] at h
    obtain ⟨y, e, hf⟩ := h
    refine .inr (.inr (.inr (.inl ⟨_, e, ?_⟩)))
    unfold RPost
    rw [rngF]
    exact rng_neg f y W fun W' hb => rc_any Q f W' y (hf.bel hb)
  | .crit b, W, x, h => by
    rw [FmIn] at h
    exact .inr (.inr (.inr (.inr (.inl ⟨_, h, rngCrit_any b W⟩))))
  | .bran c th el, W, x, h => by
    rw [FmIn] at h
    obtain ⟨y, p, cap, b, off, p2, cap2, b2, off2, e, hy, ⟨hL, hAt⟩, hL2, hAt2⟩ := h
    refine .inr (.inr (.inr (.inr (.inr (.inl ⟨_, e, ?_⟩)))))
    unfold RPost
    rw [rngF]
    exact rng_bran c y th el p p2 cap cap2 W Q hy ⟨b, off, hL, hAt⟩ ⟨b2, off2, hL2, hAt2⟩ (fun W' x _ hf => rc_any Q c W' x hf) (fun i hi W' x _ hf => rcs_any Q th i hi W' x hf) fun i hi W' x _ hf => rcs_any Q el i hi W' x hf
  | .mis, W, x, h => by
    rw [FmIn] at h
    exact .inr (.inr (.inr (.inr (.inr (.inr ⟨_, h, rngMis_any W⟩)))))
theorem rcs_any (Q : Nat → Prop) : ∀ (l : List Fm) (i : Nat) (h : i < l.length) (W : World) (x : Value), FmIn W Q l[i] x → RC l[i] x W
  | [], i, h, _, _, _ => absurd h (by simp)
  | f :: l, 0, _, W, x, hf => rc_any Q f W x hf
  | f :: l, i + 1, h, W, x, hf => rcs_any Q l i (by simpa using h) W x hf
end

set_option maxHeartbeats 4000000 in
/-- The steps' range, of any forms. -/
theorem stepsRng_any (l : List Fm) (p : Option Addr) (cap : Nat) (W : World) (Q : Nat → Prop) (h : FsIn W Q l p cap) :
    Calls Tryz.prog 111 #[.slice p l.length cap] W fun e w' => e = .returned (.bool (stepsOk l)) ∧ Below W.heap.size W w' := by
  unfold stepsOk
  rw [← rngFs_eq]
  exact stepsR_any l p cap W Q h fun i hi W' x _ hf => rcs_any Q l i hi W' x hf
end Go.Proofs.YtabdgnigmlpeaaaGreatDoor
