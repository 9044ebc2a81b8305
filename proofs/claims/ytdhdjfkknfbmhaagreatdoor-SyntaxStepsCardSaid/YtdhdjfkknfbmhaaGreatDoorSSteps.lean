/- steps; the induction over the levels. -/
import Derived.Test.YtdhdjfkknfbmhaaGreatDoorSStepIf
import Derived.Deep.DeepCutAuto
namespace Go.Proofs.YtdhdjfkknfbmhaaGreatDoor
open Go.RowKit

/-- What stands in the loop of steps. -/
structure SSt (w wr : World) (pb tb off cap : Nat) (M : Nat → Value) (L : List Tk) (v : Value) (es : List ElS) (q : Nat) : Prop where
  own : OwnS wr w.heap.size v es
  psr : Psr wr pb tb off cap M L q
  kp : Kp w wr pb
  len : es.length ≤ q
theorem SSt.push {w w3 w4 : World} {pb tb off cap : Nat} {M : Nat → Value} {L : List Tk} {v v2 : Value} {es : List ElS} {e : ElS} {q q' : Nat} (hpb : pb < w.heap.size) (htb : tb < w.heap.size)
    (own : OwnS w3 w.heap.size v es) (psr : Psr w3 pb tb off cap M L q') (kp : Kp w w3 pb) (hlen : es.length ≤ q) (hq : q + 1 ≤ q')
    (h : OwnS w4 w.heap.size v2 (es ++ [e])) (hg : w3.grownBy w4 v.ownBlock) : SSt w w4 pb tb off cap M L v2 (es ++ [e]) q' := by
  have hb : ∀ k, k < w.heap.size → w4.heap[k]? = w3.heap[k]? := fun k hk => hg.block k (by have := kp.size; omega) fun e => by have := (own.lt k e.symm).1; omega
  exact ⟨h, psr.same hg.size (hb pb (by omega)) (hb tb (by omega)), ⟨hg.os.trans kp.os, hg.tape.trans kp.tape, hg.output.trans kp.output, Nat.le_trans kp.size hg.size, fun k hk hne => (hb k (by omega)).trans (kp.block k hk hne)⟩, by simp; omega⟩

set_option maxHeartbeats 8000000 in
set_option maxRecDepth 100000 in
theorem stepsOf_any (G : P St) (hlt : Lt1 G) (d : Int) (w : World) (pb tb off cap : Nat) (M : Nat → Value) (L : List Tk) (i : Nat) (h : Psr w pb tb off cap M L i) (hG : GlS w)
    (hS : ∀ wx q, GlS wx → Psr wx pb tb off cap M L q → Calls Tryz.prog 91 #[.pointer (some ⟨pb, 0, none⟩), .int .i64 d] wx fun e w' => EndsS wx pb tb off cap M L (G (L.drop q)) e w') :
    Calls Tryz.prog 33 #[.pointer (some ⟨pb, 0, none⟩), .int .i64 d] w fun e w' => EndsT w pb tb off cap M L (stepsOf G (L.drop i)) e w' := by
  have HG0 := Lib.hid hG
  have hpb := h.lt
  have htb := h.tlt
  have h9 := h.h9
  have HS : Hid (∀ wx q, Kp w wx pb → Psr wx pb tb off cap M L q → Calls Tryz.prog 91 #[.pointer (some ⟨pb, 0, none⟩), .int .i64 d] wx fun e w' => EndsS wx pb tb off cap M L (G (L.drop q)) e w') := Lib.hid fun wx q hk hx => hS wx q (HG0.out.kp hk h9) hx
  have HS0 := Lib.hid (HS.out w i (Kp.refl _ _) h)
  have HSE : Hid (∀ wx q, Psr wx pb tb off cap M L q → Calls Tryz.prog 92 #[.pointer (some ⟨pb, 0, none⟩), .string (S wIf)] wx fun e w' => e = .returned (.bool (seesS wIf (L.drop q))) ∧ Below wx.heap.size wx w') := Lib.hid fun wx q hx => sees_any wIf (by decide) wx pb tb off cap M L q hx
  have HCO : Hid (∀ wx q, Psr wx pb tb off cap M L q → Calls Tryz.prog 93 #[.slice (some ⟨wx.heap.size, 0, none⟩) 5 5, .func (Fn.func 92) #[.pointer (some ⟨pb, 0, none⟩)] #[]] (wx.alloc stepObj) fun e w' => e = .returned (.bool (stepWordsS.any fun s => seesS s (L.drop q))) ∧ Below (wx.alloc stepObj).heap.size (wx.alloc stepObj) w') := Lib.hid fun wx q hx =>
    contains_any stepWordsS (by decide) (by decide) _ 5 _ pb tb off cap M L q (hx.bel ((Below.refl wx.heap.size wx).alloc (Nat.le_refl _) _) (Nat.le_refl _)) (STs.steps wx hx.lt)
  have hmf : ∀ (fn : Fn) (first cap : Array Value) (w : World), (Instr.makeFunc fn first cap).run Tryz.prog w = .ok (.func fn first cap) w := fun _ _ _ _ => rfl
  have hil := h.il
  have hll := h.ll
  obtain ⟨R, hR⟩ : ∃ R, stepsOf G (L.drop i) = R := ⟨_, rfl⟩
  rw [hR]
  obtain ⟨T, hT⟩ : ∃ T, G (L.drop i) = T := ⟨_, rfl⟩
  have HR : Hid ((T.bind fun x r => moreStepsS G r.length r [x]) = R) := Lib.hid (by rw [← hR, ← hT]; rfl)
  have HLT : Hid (∀ a r, T = .ok a r → r.length < (L.drop i).length) := Lib.hid fun a r h => hlt _ a r (hT.trans h)
  rw [hT] at HS0
  clear h hG hS HG0 hR hT
  go_enter Tryz.func33, Tryz.ntmps33
  go_wp2_with fail
  go_at_call 91
  refine HS0.out.mono ?_
  intro e w1 he
  cases T with
  | err a x =>
    obtain ⟨rfl, hk⟩ := he
    have hRe := HR.out
    subst hRe
    go_wp2_with fail
    exact ⟨rfl, rfl, hk⟩
  | ok s r =>
    obtain ⟨y, rfl, hs, hk, q1, rfl, hp⟩ := he
    have hl1 := HLT.out _ _ rfl
    rw [List.length_drop, List.length_drop] at hl1
    have hil1 := hp.il
    have HM0 : Hid (∃ f, (L.drop q1).length ≤ f ∧ moreStepsS G f (L.drop q1) [s] = R) := Lib.hid ⟨_, Nat.le_refl _, HR.out⟩
    have HV1 := Lib.hid (hs.keep2 (Q' := fun b => w.heap.size ≤ b ∧ some b ≠ (Value.slice none 0 0).ownBlock) (Nat.le_refl _) fun b hb _ => ⟨⟨hb, by simp [Value.ownBlock]⟩, rfl⟩)
    have HP1 := Lib.hid hp
    have HK1 := Lib.hid hk
    have hs1 := hk.size
    clear hs hk hp HR HLT HS0
    unfold sV cellsS
    go_wp2_with (refine wpList_pushS rfl _ _ rfl w.heap.size _ [] (OwnS.nil _ _) rfl s y 1 rfl HV1.out (by simp) hs1 ?_; intro g cap' w4 ho4 hg4; have HJ4 := Lib.hid (SSt.push (q := i) hpb htb (OwnS.nil _ _) HP1.out HK1.out (by simp) (by omega) ho4 hg4); clear ho4 hg4)
    go_loopw [4] (fun v wr => ∃ es q, Hid (SSt w wr pb tb off cap M L v es q) ∧ Hid (∃ f, (L.drop q).length ≤ f ∧ moreStepsS G f (L.drop q) (es.map (·.1)) = R)) (fun _ wr => restOf wr pb)
    case atStart => exact ⟨_, q1, HJ4, HM0⟩
    case round =>
      obtain ⟨es, q, HJ', HM⟩ := hrel
      clear HJ4 HM0
      have HSE1 := Lib.hid (HSE.out _ q HJ'.out.psr)
      obtain ⟨f1, hf1⟩ : ∃ f, seesS wIf (L.drop q) = f := ⟨_, rfl⟩
      obtain ⟨f2, hf2⟩ : ∃ f, (stepWordsS.any fun s => seesS s (L.drop q)) = f := ⟨_, rfl⟩
      rw [hf1] at HSE1
      have HM2 : Hid ((f1 || f2) = true → ∃ f, (L.drop q).length ≤ f + 1 ∧ ((G (L.drop q)).bind fun x r => moreStepsS G f r (es.map (·.1) ++ [x])) = R) := Lib.hid (by
        intro hff
        obtain ⟨f, h1, h2⟩ := HM.out
        have hl := HJ'.out.psr.il
        rw [List.length_drop] at h1
        obtain ⟨f, rfl⟩ : ∃ g, f = g + 1 := ⟨f - 1, by omega⟩
        rw [moreStepsS, if_pos (by unfold goesOn; rw [hf1, hf2]; exact hff)] at h2
        exact ⟨f, by rw [List.length_drop]; omega, h2⟩)
      have HM9 : Hid ((f1 || f2) = false → R = .ok (es.map (·.1)) (L.drop q)) := Lib.hid (by
        intro hff
        obtain ⟨f, h1, h2⟩ := HM.out
        cases f with
        | zero => exact h2.symm
        | succ f =>
          rw [moreStepsS, if_neg (by unfold goesOn; rw [hf1, hf2, hff]; decide)] at h2
          exact h2.symm)
      have HCO1 : Hid (∀ wx, Psr wx pb tb off cap M L q → Calls Tryz.prog 93 #[.slice (some ⟨wx.heap.size, 0, none⟩) 5 5, .func (Fn.func 92) #[.pointer (some ⟨pb, 0, none⟩)] #[]] (wx.alloc stepObj) fun e w' => e = .returned (.bool f2) ∧ Below (wx.alloc stepObj).heap.size (wx.alloc stepObj) w') := Lib.hid (by rw [← hf2]; exact fun wx hx => HCO.out wx q hx)
      clear hf1 hf2 HM HSE HCO
      cases f1 with
      | true =>
        have HM2 := Lib.hid (HM2.out rfl)
        clear HM9 HCO1
        cases hx : G (L.drop q) with
        | err a x =>
          have hTe : R = .err a x := by obtain ⟨f, _, h2⟩ := HM2.out; rw [hx] at h2; exact h2.symm
          subst hTe
          have HX := Lib.hid hx
          clear hx HM2
          go_wp2_with (go_at_call 92; refine HSE1.out.mono ?_; rintro e w2 ⟨rfl, hb⟩; have HPX := Lib.hid (HJ'.out.psr.bel hb (Nat.le_refl _)); have HKX := Lib.hid (HJ'.out.kp.trans (Kp.ofBelow hb (Nat.le_refl _))); have HOX := Lib.hid (HJ'.out.own.kept (Kp.ofBelow (sb := pb) hb (Nat.le_refl _)) hpb); clear hb)
          have HS2 := HS.out _ q HKX.out HPX.out
          rw [HX.out] at HS2
          go_at_call 91
          refine HS2.mono ?_
          rintro e w3 ⟨rfl, hk3⟩
          go_wp2_with fail
          exact ⟨rfl, rfl, HKX.out.trans hk3⟩
        | ok s' r' =>
          have hl2 := hlt _ _ _ hx
          rw [List.length_drop] at hl2
          have hlen := HJ'.out.len
          have hqL := HJ'.out.psr.il
          have HM3 : Hid (∃ f, r'.length ≤ f ∧ moreStepsS G f r' (es.map (·.1) ++ [s']) = R) := Lib.hid (by
            obtain ⟨f, h1, h2⟩ := HM2.out
            rw [hx] at h2
            rw [List.length_drop] at h1
            exact ⟨f, by omega, h2⟩)
          have HX := Lib.hid hx
          clear hx HM2
          go_wp2_with (go_at_call 92; refine HSE1.out.mono ?_; rintro e w2 ⟨rfl, hb⟩; have HPX := Lib.hid (HJ'.out.psr.bel hb (Nat.le_refl _)); have HKX := Lib.hid (HJ'.out.kp.trans (Kp.ofBelow hb (Nat.le_refl _))); have HOX := Lib.hid (HJ'.out.own.kept (Kp.ofBelow (sb := pb) hb (Nat.le_refl _)) hpb); clear hb)
          have HS2 := HS.out _ q HKX.out HPX.out
          rw [HX.out] at HS2
          go_at_call 91
          refine HS2.mono ?_
          clear HS2 HX
          rintro e w3 ⟨y', rfl, hs3, hk3, q3, hr3, hp3⟩
          rw [← hr3, List.length_drop] at hl2
          have hil3 := hp3.il
          have hown2 := HOX.out.lt
          have hkx := HKX.out.size
          have HO3 := Lib.hid (HOX.out.kept hk3 (by omega))
          have HP3 := Lib.hid hp3
          have HK3 := Lib.hid (HKX.out.trans hk3)
          have hs3' := hk3.size
          have HV3 := Lib.hid (hs3.keep2 (Q' := fun b => w.heap.size ≤ b ∧ some b ≠ Value.ownBlock _) (Nat.le_refl _) fun b hb _ => ⟨⟨by omega, fun e => by have := (hown2 b e.symm).2; omega⟩, rfl⟩)
          have HM4 : Hid (∃ f, (L.drop q3).length ≤ f ∧ moreStepsS G f (L.drop q3) ((es ++ [(s', y')]).map (·.1)) = R) := Lib.hid (by
            obtain ⟨f, h1, h2⟩ := HM3.out
            rw [hr3, List.map_append]
            exact ⟨f, h1, h2⟩)
          have hn : es.length ≤ 1000000000000 := by omega
          have hsz3 : w.heap.size ≤ w3.heap.size := by omega
          have HQ : Hid (q + 1 ≤ q3 ∧ L.length - q3 < L.length - q) := Lib.hid ⟨by omega, by omega⟩
          clear hs3 hk3 hp3 hr3 HM3 hown2 hl2 hil3 hkx hs3'
          unfold sV cellsS
          go_wp2_with (refine wpList_pushS rfl _ _ rfl w.heap.size _ es HO3.out rfl s' y' 1 rfl HV3.out hn hsz3 ?_; intro g cap' w4 ho4 hg4; have HJ4 := Lib.hid (SSt.push (q := q) hpb htb HO3.out HP3.out HK3.out hlen HQ.out.1 ho4 hg4); clear ho4 hg4)
          go_roundw
          case rel => exact ⟨_, q3, HJ4, HM4⟩
          case measure => rw [HJ4.out.psr.restOf, HJ'.out.psr.restOf]; exact HQ.out.2
      | false =>
        cases f2 with
        | true =>
          have HM2 := Lib.hid (HM2.out rfl)
          clear HM9
          cases hx : G (L.drop q) with
          | err a x =>
            have hTe : R = .err a x := by obtain ⟨f, _, h2⟩ := HM2.out; rw [hx] at h2; exact h2.symm
            subst hTe
            have HX := Lib.hid hx
            clear hx HM2
            go_wp2_with (first | (go_at_call 92; refine HSE1.out.mono ?_; rintro e w2 ⟨rfl, hb⟩; have HPA := Lib.hid (HJ'.out.psr.bel hb (Nat.le_refl _)); have HKJ := Lib.hid (Kp.ofBelow (sb := pb) hb (Nat.le_refl _)); have HKA := Lib.hid (HJ'.out.kp.trans (Kp.ofBelow hb (Nat.le_refl _))); have HOA := Lib.hid (HJ'.out.own.kept (Kp.ofBelow (sb := pb) hb (Nat.le_refl _)) hpb); clear hb) | (go_at_call 94; refine (stepWords_any _).mono ?_; rintro e w' ⟨rfl, rfl⟩) | (go_at_call 93; refine (HCO1.out _ HPA.out).mono ?_; rintro e w3 ⟨rfl, hb⟩; have hkb := (Kp.ofBelow (sb := pb) ((Below.refl _ _).alloc (Nat.le_refl _) stepObj) (Nat.le_refl _)).trans (Kp.ofBelow hb (Nat.le_refl _)); have HPX := Lib.hid ((HPA.out.bel ((Below.refl _ _).alloc (Nat.le_refl _) stepObj) (Nat.le_refl _)).bel hb (Nat.le_refl _)); have HKX := Lib.hid (HKA.out.trans hkb); have HKZ := Lib.hid (HKJ.out.trans hkb); have HOX := Lib.hid (HOA.out.kept hkb hpb); clear hb hkb HPA HKA HOA))
            have HS2 := HS.out _ q HKX.out HPX.out
            rw [HX.out] at HS2
            go_at_call 91
            refine HS2.mono ?_
            rintro e w3 ⟨rfl, hk3⟩
            go_wp2_with fail
            exact ⟨rfl, rfl, HKX.out.trans hk3⟩
          | ok s' r' =>
            have hl2 := hlt _ _ _ hx
            rw [List.length_drop] at hl2
            have hlen := HJ'.out.len
            have hqL := HJ'.out.psr.il
            have HM3 : Hid (∃ f, r'.length ≤ f ∧ moreStepsS G f r' (es.map (·.1) ++ [s']) = R) := Lib.hid (by
              obtain ⟨f, h1, h2⟩ := HM2.out
              rw [hx] at h2
              rw [List.length_drop] at h1
              exact ⟨f, by omega, h2⟩)
            have HX := Lib.hid hx
            clear hx HM2
            go_wp2_with (first | (go_at_call 92; refine HSE1.out.mono ?_; rintro e w2 ⟨rfl, hb⟩; have HPA := Lib.hid (HJ'.out.psr.bel hb (Nat.le_refl _)); have HKJ := Lib.hid (Kp.ofBelow (sb := pb) hb (Nat.le_refl _)); have HKA := Lib.hid (HJ'.out.kp.trans (Kp.ofBelow hb (Nat.le_refl _))); have HOA := Lib.hid (HJ'.out.own.kept (Kp.ofBelow (sb := pb) hb (Nat.le_refl _)) hpb); clear hb) | (go_at_call 94; refine (stepWords_any _).mono ?_; rintro e w' ⟨rfl, rfl⟩) | (go_at_call 93; refine (HCO1.out _ HPA.out).mono ?_; rintro e w3 ⟨rfl, hb⟩; have hkb := (Kp.ofBelow (sb := pb) ((Below.refl _ _).alloc (Nat.le_refl _) stepObj) (Nat.le_refl _)).trans (Kp.ofBelow hb (Nat.le_refl _)); have HPX := Lib.hid ((HPA.out.bel ((Below.refl _ _).alloc (Nat.le_refl _) stepObj) (Nat.le_refl _)).bel hb (Nat.le_refl _)); have HKX := Lib.hid (HKA.out.trans hkb); have HKZ := Lib.hid (HKJ.out.trans hkb); have HOX := Lib.hid (HOA.out.kept hkb hpb); clear hb hkb HPA HKA HOA))
            have HS2 := HS.out _ q HKX.out HPX.out
            rw [HX.out] at HS2
            go_at_call 91
            refine HS2.mono ?_
            clear HS2 HX
            rintro e w3 ⟨y', rfl, hs3, hk3, q3, hr3, hp3⟩
            rw [← hr3, List.length_drop] at hl2
            have hil3 := hp3.il
            have hown2 := HOX.out.lt
            have hkx := HKX.out.size
            have HO3 := Lib.hid (HOX.out.kept hk3 (by omega))
            have HP3 := Lib.hid hp3
            have HK3 := Lib.hid (HKX.out.trans hk3)
            have hs3' := hk3.size
            have HV3 := Lib.hid (hs3.keep2 (Q' := fun b => w.heap.size ≤ b ∧ some b ≠ Value.ownBlock _) (Nat.le_refl _) fun b hb _ => ⟨⟨by omega, fun e => by have := (hown2 b e.symm).2; omega⟩, rfl⟩)
            have HM4 : Hid (∃ f, (L.drop q3).length ≤ f ∧ moreStepsS G f (L.drop q3) ((es ++ [(s', y')]).map (·.1)) = R) := Lib.hid (by
              obtain ⟨f, h1, h2⟩ := HM3.out
              rw [hr3, List.map_append]
              exact ⟨f, h1, h2⟩)
            have hn : es.length ≤ 1000000000000 := by omega
            have hsz3 : w.heap.size ≤ w3.heap.size := by omega
            have HQ : Hid (q + 1 ≤ q3 ∧ L.length - q3 < L.length - q) := Lib.hid ⟨by omega, by omega⟩
            clear hs3 hk3 hp3 hr3 HM3 hown2 hl2 hil3 hkx hs3'
            unfold sV cellsS
            go_wp2_with (refine wpList_pushS rfl _ _ rfl w.heap.size _ es HO3.out rfl s' y' 1 rfl HV3.out hn hsz3 ?_; intro g cap' w4 ho4 hg4; have HJ4 := Lib.hid (SSt.push (q := q) hpb htb HO3.out HP3.out HK3.out hlen HQ.out.1 ho4 hg4); clear ho4 hg4)
            go_roundw
            case rel => exact ⟨_, q3, HJ4, HM4⟩
            case measure => rw [HJ4.out.psr.restOf, HJ'.out.psr.restOf]; exact HQ.out.2
        | false =>
          have hRe := HM9.out rfl
          subst hRe
          clear HM2 HM9
          have hlen := HJ'.out.len
          have hil2 := HJ'.out.psr.il
          obtain ⟨pp, kk, rfl, hss⟩ := HJ'.out.own.reads (by omega)
          have HSS := Lib.hid hss
          clear hss
          go_wp2_with (first | (go_at_call 92; refine HSE1.out.mono ?_; rintro e w2 ⟨rfl, hb⟩; have HPA := Lib.hid (HJ'.out.psr.bel hb (Nat.le_refl _)); have HKJ := Lib.hid (Kp.ofBelow (sb := pb) hb (Nat.le_refl _)); have HKA := Lib.hid (HJ'.out.kp.trans (Kp.ofBelow hb (Nat.le_refl _))); have HOA := Lib.hid (HJ'.out.own.kept (Kp.ofBelow (sb := pb) hb (Nat.le_refl _)) hpb); clear hb) | (go_at_call 94; refine (stepWords_any _).mono ?_; rintro e w' ⟨rfl, rfl⟩) | (go_at_call 93; refine (HCO1.out _ HPA.out).mono ?_; rintro e w3 ⟨rfl, hb⟩; have hkb := (Kp.ofBelow (sb := pb) ((Below.refl _ _).alloc (Nat.le_refl _) stepObj) (Nat.le_refl _)).trans (Kp.ofBelow hb (Nat.le_refl _)); have HPX := Lib.hid ((HPA.out.bel ((Below.refl _ _).alloc (Nat.le_refl _) stepObj) (Nat.le_refl _)).bel hb (Nat.le_refl _)); have HKX := Lib.hid (HKA.out.trans hkb); have HKZ := Lib.hid (HKJ.out.trans hkb); have HOX := Lib.hid (HOA.out.kept hkb hpb); clear hb hkb HPA HKA HOA))
          go_ret
          exact ⟨pp, kk, by rw [List.length_map]; rfl, HSS.out.keep HKZ.out.size (fun b hb hl => HKZ.out.block b hl (by omega)), HKX.out, q, rfl, HPX.out⟩

theorem step_any (g : Option (P (List St))) (d : Nat) (w : World) (pb tb off cap : Nat) (M : Nat → Value) (L : List Tk) (i : Nat) (h : Psr w pb tb off cap M L i) (hG : GlS w) (hd : d ≤ 16) (h16 : g = none ↔ d = 16)
    (hS : ∀ G, g = some G → ∀ wx q, GlS wx → Psr wx pb tb off cap M L q → Calls Tryz.prog 33 #[.pointer (some ⟨pb, 0, none⟩), .int .i64 ((d : Int) + 1)] wx fun e w' => EndsT wx pb tb off cap M L (G (L.drop q)) e w') :
    Calls Tryz.prog 91 #[.pointer (some ⟨pb, 0, none⟩), .int .i64 d] w fun e w' => EndsS w pb tb off cap M L (stepWith g (L.drop i)) e w' := by
  cases hn : seesS wIf (L.drop i) with
  | false =>
    unfold stepWith
    rw [hn, if_neg (by decide)]
    exact step_by d (by omega) w pb tb off cap M L i h hG hn
  | true =>
    cases g with
    | none =>
      unfold stepWith
      rw [hn, if_pos rfl]
      exact step_deep d (by have := h16.1 rfl; omega) (by omega) w pb tb off cap M L i h hn
    | some G =>
      have hd2 : d < 16 := by
        have : d ≠ 16 := fun e => by have := h16.2 e; cases this
        omega
      exact step_if G d hd2 w pb tb off cap M L i h hG hn (hS G rfl)
theorem steps_any : ∀ (lv d : Nat), lv + d = 16 → ∀ (w : World) (pb tb off cap : Nat) (M : Nat → Value) (L : List Tk) (i : Nat), GlS w → Psr w pb tb off cap M L i →
    Calls Tryz.prog 33 #[.pointer (some ⟨pb, 0, none⟩), .int .i64 d] w fun e w' => EndsT w pb tb off cap M L (stepsS lv (L.drop i)) e w'
  | 0, d, hd, w, pb, tb, off, cap, M, L, i, hG, h => stepsOf_any (stepWith none) step0_lt d w pb tb off cap M L i h hG fun wx q hg hx =>
      step_any none d wx pb tb off cap M L q hx hg (by omega) ⟨fun _ => by omega, fun _ => rfl⟩ fun G hG => by cases hG
  | lv + 1, d, hd, w, pb, tb, off, cap, M, L, i, hG, h => stepsOf_any (stepWith (some (stepsS lv))) (stepSS_lt lv) d w pb tb off cap M L i h hG fun wx q hg hx =>
      step_any (some (stepsS lv)) d wx pb tb off cap M L q hx hg (by omega) ⟨(fun h => by cases h), fun h => by omega⟩ fun G hG wy q' hgy hy => by
        cases hG
        exact steps_any lv (d + 1) (by omega) wy pb tb off cap M L q' hgy hy
end Go.Proofs.YtdhdjfkknfbmhaaGreatDoor
