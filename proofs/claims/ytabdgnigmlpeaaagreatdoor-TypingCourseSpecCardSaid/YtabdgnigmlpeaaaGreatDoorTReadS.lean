/- readSteps; typing.Ties. -/
import Derived.Test.YtabdgnigmlpeaaaGreatDoorTConds2
import Derived.Test.YtabdgnigmlpeaaaGreatDoorTSForm3
namespace Go.Proofs.YtabdgnigmlpeaaaGreatDoor
open Go.RowKit

theorem conds_any {w0 : World} {Q : Nat → Prop} {ss : List St} {p : Option Addr} {cap : Nat} (h : SsIn w0 Q ss p cap) (hQ : ∀ b, Q b → b < w0.heap.size) : szSs ss ≤ 100000 → ∀ W, Below w0.heap.size w0 W → CondsAt W Q ss p cap := by
  induction h with
  | mk ss p cap b off X hl hc hc2 hp hb hcell hcd hth hel ih1 ih2 =>
    intro hfew W hW W' hW'
    have hWW := hW.trans (hW'.mono hW.size)
    have hsub : ∀ i (h : i < ss.length), szSs ss[i].th ≤ 100000 ∧ szSs ss[i].el ≤ 100000 := fun i hi => by
      have h1 := szSs_get ss i hi
      have h2 := szS_eq ss[i]
      omega
    exact conds_loop ss p cap b off X Q (fun hne => (hb hne).1) hl W' (fun b hb => Nat.lt_of_lt_of_le (hQ b hb) hWW.size) hfew (fun W2 h2 i hi j u hu => keepc (hWW.trans (h2.mono hWW.size)) (hcell i hi j u hu))
      (fun W2 h2 i hi => (hcd i hi).bel (hWW.trans (h2.mono hWW.size))) (fun W2 h2 i hi => ih1 i hi (hsub i hi).1 W2 (hWW.trans (h2.mono hWW.size))) (fun W2 h2 i hi => ih2 i hi (hsub i hi).2 W2 (hWW.trans (h2.mono hWW.size)))
/-- What readSteps comes to: an error, or forms. -/
def ReadT (w : World) (E : Int) (n : Nat) (l : List Fm) (e : Ending) (w' : World) : Prop :=
  (E = 0 → ∃ q k, e = .returned (.tuple #[.slice q n k, .int .i64 0]) ∧ FsIn w' (w.heap.size ≤ ·) l q k) ∧ (E ≠ 0 → e = .returned (.tuple #[.slice none 0 0, .int .i64 E])) ∧ Below w.heap.size w w'
theorem fitT_few {l : List St} (h : (fitT 0 64 l).1 = true) : szSs l ≤ 64 := ((fitT_iff l).1 h).2

set_option maxHeartbeats 4000000 in
theorem readSteps_any {w : World} {Q : Nat → Prop} {l : List St} {p : Option Addr} {cap : Nat} (h0 : SsIn w Q l p cap) :
    Calls Tryz.prog 49 #[.slice p l.length cap] w (ReadT w (tiesE l) l.length (l.map formS)) := by
  have h := h0.keep2 (Q' := fun b => b < w.heap.size) (Nat.le_refl _) fun b _ hb => ⟨hb, rfl⟩
  have H1 := Lib.hid (limited_step h)
  have H2 : Hid ((fitT 0 64 l).1 = true → ∀ W, Below w.heap.size w W → Calls Tryz.prog 108 #[.slice p l.length cap] W (fun e w' => ∃ p3 cap3, e = .returned (.slice p3 (condsOfs l).length cap3) ∧ (∃ Q', CdIn w' Q' (.mk 0 0 0 (condsOfs l)) p3 cap3) ∧ Below w.heap.size w w')) := Lib.hid fun hf W hW =>
    ((conds_any h (fun b hb => hb) (by have := fitT_few hf; omega) W hW) W (Below.refl _ _)).mono fun e w' ⟨es, p3, cap3, he, hm, ho, hb⟩ => by
      have hlen : es.length = (condsOfs l).length := by rw [← hm, List.length_map]
      obtain ⟨q, k, hv, hc, -, -⟩ := ho.reads (by rw [hlen]; have := condsOfs_len l; have := fitT_few hf; omega)
      rw [hlen] at hv
      obtain ⟨rfl, -, rfl⟩ := Value.slice.inj hv
      rw [hm] at hc
      exact ⟨p3, cap3, he, ⟨_, hc⟩, hW.trans (hb.mono hW.size)⟩
  have H3 : Hid (∀ (W : World) (p3 : Option Addr) (cap3 : Nat), (∃ Q', CdIn W Q' (.mk 0 0 0 (condsOfs l)) p3 cap3) → Calls Tryz.prog 103 #[.slice p3 (condsOfs l).length cap3, .func (Fn.func 104) #[] #[], .int .i64 256] W fun e w' => e = .returned (.bool (fitL 0 256 (condsOfs l)).1) ∧ Below W.heap.size W w') := Lib.hid fun W p3 cap3 ⟨Q', hc⟩ => limited_cond hc
  have H4 : Hid (∀ W, Below w.heap.size w W → Calls Tryz.prog 109 #[.slice p l.length cap, .func (Fn.func 110) #[] #[]] W fun e w' => ∃ q k, e = .returned (.slice q l.length k) ∧ FsIn w' (W.heap.size ≤ ·) (l.map formS) q k ∧ Below W.heap.size W w') := Lib.hid fun W hW => formsT_any h W hW W (Below.refl _ _)
  have H5 : Hid (∀ (W : World) (Q : Nat → Prop) q k, FsIn W Q (l.map formS) q k → Calls Tryz.prog 111 #[.slice q l.length k] W fun e w' => e = .returned (.bool (stepsOk (l.map formS))) ∧ Below W.heap.size W w') := Lib.hid fun W Q q k hf => by
    have := stepsRng_any _ q k W Q hf
    rw [List.length_map] at this
    exact this
  clear h h0
  have hmf : ∀ (fn : Fn) (first cap : Array Value) (w : World), (Instr.makeFunc fn first cap).run Tryz.prog w = .ok (.func fn first cap) w := fun _ _ _ _ => rfl
  unfold tiesE
  generalize (fitL 0 256 (condsOfs l)).1 = T2 at *
  generalize (condsOfs l).length = nc at *
  generalize stepsOk (l.map formS) = T3 at *
  cases hT1 : (fitT 0 64 l).1 with
  | false =>
    rw [hT1] at H1
    rw [if_pos (.inl rfl)]
    clear hT1 H2 H3 H4 H5
    generalize l.length = n at *
    generalize l.map formS = fs at *
    go_enter Tryz.func49, Tryz.ntmps49
    go_wp2_with (go_at_call 106; (with_reducible refine H1.out.mono ?_); rintro e w1 ⟨rfl, hb⟩; have HB1 := Lib.hid hb; clear hb)
    go_ret2
    exact ⟨fun h => absurd h (by decide), fun _ => rfl, HB1.out⟩
  | true =>
    rw [hT1] at H1
    have H2 := Lib.hid (H2.out hT1)
    clear hT1
    generalize l.length = n at *
    generalize l.map formS = fs at *
    cases T2 with
    | false =>
      rw [if_pos (.inr rfl)]
      clear H4 H5
      go_enter Tryz.func49, Tryz.ntmps49
      go_wp2_with (first | (go_at_call 106; (with_reducible refine H1.out.mono ?_); rintro e w1 ⟨rfl, hb⟩; have HB1 := Lib.hid hb; clear hb) | (go_at_call 108; (with_reducible refine (H2.out _ HB1.out).mono ?_); rintro e w2 ⟨p3, cap3, rfl, hc, hb⟩; have HB2 := Lib.hid hb; have HC2 := Lib.hid hc; clear hb hc) | (go_at_call 103; (with_reducible refine (H3.out _ _ _ HC2.out).mono ?_); rintro e w3 ⟨rfl, hb⟩; have HB3 := Lib.hid (HB2.out.trans (hb.mono HB2.out.size)); clear hb))
      go_ret2
      exact ⟨fun h => absurd h (by decide), fun _ => rfl, HB3.out⟩
    | true =>
      rw [if_neg (by decide)]
      cases T3
      all_goals
        simp only [Bool.false_eq_true, if_false, if_true]
        go_enter Tryz.func49, Tryz.ntmps49
        go_wp2_with (first | (go_at_call 106; (with_reducible refine H1.out.mono ?_); rintro e w1 ⟨rfl, hb⟩; have HB1 := Lib.hid hb; clear hb) | (go_at_call 108; (with_reducible refine (H2.out _ HB1.out).mono ?_); rintro e w2 ⟨p3, cap3, rfl, hc, hb⟩; have HB2 := Lib.hid hb; have HC2 := Lib.hid hc; clear hb hc) | (go_at_call 103; (with_reducible refine (H3.out _ _ _ HC2.out).mono ?_); rintro e w3 ⟨rfl, hb⟩; have HB3 := Lib.hid (HB2.out.trans (hb.mono HB2.out.size)); clear hb) | (go_at_call 109; (with_reducible refine (H4.out _ HB3.out).mono ?_); rintro e w4 ⟨q4, k4, rfl, hf4, hb⟩; have HB4 := Lib.hid (HB3.out.trans (hb.mono HB3.out.size)); have HF4 : Hid (FsIn w4 (w.heap.size ≤ ·) fs q4 k4) := Lib.hid (hf4.keep2 (Nat.le_refl _) fun b hb _ => ⟨Nat.le_trans HB3.out.size hb, rfl⟩); clear hb hf4) | (go_at_call 111; (with_reducible refine (H5.out _ _ _ _ HF4.out).mono ?_); rintro e w5 ⟨rfl, hb⟩; have HB5 := Lib.hid (HB4.out.trans (hb.mono HB4.out.size)); have HF5 := Lib.hid (HF4.out.bel hb); clear hb))
        go_ret2
        first
          | exact ⟨fun h => absurd h (by decide), fun _ => rfl, HB5.out⟩
          | exact ⟨fun _ => ⟨_, _, rfl, HF5.out⟩, fun h => absurd rfl h, HB5.out⟩

/-- typing.Ties. -/
theorem tTies_any {w : World} {Q : Nat → Prop} {l : List St} {p : Option Addr} {cap : Nat} (h : SsIn w Q l p cap) :
    Calls Tryz.prog 18 #[.slice p l.length cap] w fun e w' => e = .returned (.int .i64 (tiesE l)) ∧ Below w.heap.size w w' := by
  have H := Lib.hid (readSteps_any h)
  clear h
  generalize tiesE l = E at *
  generalize l.map formS = f at *
  generalize l.length = n at *
  by_cases hE : E = 0
  · subst hE
    go_enter Tryz.func18, Tryz.ntmps18
    go_wp2_with fail
    go_at_call 49
    (with_reducible refine H.out.mono ?_)
    rintro e w1 ⟨h1, -, hb⟩
    obtain ⟨t, v, rfl, -⟩ := h1 rfl
    have HB := Lib.hid hb
    clear hb h1
    go_wp2_with fail
    go_ret
    exact ⟨rfl, HB.out⟩
  · have HE := Lib.hid hE
    clear hE
    go_enter Tryz.func18, Tryz.ntmps18
    go_wp2_with fail
    go_at_call 49
    (with_reducible refine H.out.mono ?_)
    rintro e w1 ⟨-, h1, hb⟩
    obtain rfl := h1 HE.out
    have HB := Lib.hid hb
    clear hb h1
    go_wp2_with fail
    go_ret
    exact ⟨rfl, HB.out⟩
end Go.Proofs.YtabdgnigmlpeaaaGreatDoor
