/- As joined1_any, for the closure of a conjunction. -/
import Derived.Test.YtdhdjfkknfbmhaaGreatDoorSJoin
namespace Go.Proofs.YtdhdjfkknfbmhaaGreatDoor
open Go.RowKit

set_option maxHeartbeats 8000000 in
set_option maxRecDepth 100000 in
theorem joined2_any (word : Bs) (hw : word.length ≤ 1000) (kind : Int) (take : P Cd) (hless : Less take) (b1 b2 : Nat) (w : World) (pb tb off cap : Nat) (M : Nat → Value) (L : List Tk) (i : Nat) (h : Psr w pb tb off cap M L i)
    (hT : ∀ wx q, Kp w wx pb → Psr wx pb tb off cap M L q → Calls Tryz.prog 98 #[.pointer (some ⟨b1, 0, none⟩), .pointer (some ⟨b2, 0, none⟩)] wx fun e w' => EndsC wx pb tb off cap M L (take (L.drop q)) e w') :
    Calls Tryz.prog 99 #[.pointer (some ⟨pb, 0, none⟩), .string (S word), .int .i64 kind, .func (Fn.func 98) #[] #[.pointer (some ⟨b1, 0, none⟩), .pointer (some ⟨b2, 0, none⟩)]] w fun e w' => EndsC w pb tb off cap M L (joinedS word kind take (L.drop i)) e w' := by
  have HA0 := Lib.hid ((Below.refl w.heap.size w).alloc (Nat.le_refl _) (.cells #[.int .i64 0, .int .i64 0, .int .i64 0, .slice none 0 0] 49))
  have HZ0 := Lib.hid (Z4.new w)
  have HK0 := Lib.hid (Kp.ofBelow (sb := pb) HA0.out (Nat.le_refl _))
  have HT0 := Lib.hid (hT _ i HK0.out (h.bel HA0.out (Nat.le_refl _)))
  unfold joinedS
  cases hx : take (L.drop i) with
  | err a x =>
    rw [hx] at HT0
    clear hT hx h
    show Calls _ _ _ _ fun e w' => e = .panicked (failV a x) ∧ Kp w w' pb
    go_enter Tryz.func99, Tryz.ntmps99
    go_wp2_with fail
    go_at_call 98
    refine HT0.out.mono ?_
    rintro e w1 ⟨rfl, hk⟩
    go_wp2_with fail
    exact ⟨rfl, rfl, HK0.out.trans hk⟩
  | ok c r =>
    rw [hx] at HT0
    show Calls _ _ _ _ fun e w' => EndsC w pb tb off cap M L (PR.map (oneS kind) (moreS word take r.length r [c])) e w'
    obtain ⟨T, hTT⟩ : ∃ T, moreS word take r.length r [c] = T := ⟨_, rfl⟩
    rw [hTT]
    go_enter Tryz.func99, Tryz.ntmps99
    go_wp2_with fail
    go_at_call 98
    refine HT0.out.mono ?_
    rintro e w1 ⟨p, k, rfl, hc, hk, q, rfl, hp⟩
    have hpb := h.lt
    have HJ : Hid (JSt w (w1.alloc (.cells #[.int .i64 c.k, .int .i64 c.v, .int .i64 c.n, .slice p c.ps.length k] 49)) pb tb off cap M L (.slice (some ⟨w1.heap.size, 0, none⟩) 1 1) [(c, p, k)] q) := Lib.hid (by
      have hA := (Below.refl w1.heap.size w1).alloc (Nat.le_refl _) (.cells #[.int .i64 c.k, .int .i64 c.v, .int .i64 c.n, .slice p c.ps.length k] 49)
      have hs := hk.size
      simp only [World.size_alloc] at hs hc
      exact ⟨OwnE.one (by omega) hc, hp.bel hA (Nat.le_refl _), (HK0.out.trans hk).trans (Kp.ofBelow hA (Nat.le_refl _)), (HZ0.out.kp hk (by omega)).bel hA (by omega), by simp⟩)
    have HM0 : Hid (∃ f, (L.drop q).length ≤ f ∧ moreS word take f (L.drop q) ([(c, p, k)].map (·.1)) = T) := Lib.hid ⟨_, Nat.le_refl _, hTT⟩
    have HTK := Lib.hid hT
    have htb := h.tlt
    clear hc hk hp hT HT0 HZ0 HK0 HA0 h hx
    unfold cV
    go_wp2_with fail
    go_loopw [9] (fun v wr => ∃ es q, Hid (JSt w wr pb tb off cap M L v es q) ∧ Hid (∃ f, (L.drop q).length ≤ f ∧ moreS word take f (L.drop q) (es.map (·.1)) = T)) (fun _ wr => restOf wr pb)
    case atStart => exact ⟨_, q, HJ, HM0⟩
    case round =>
      obtain ⟨es, q', HJ', HM⟩ := hrel
      clear HJ HM0 hTT
      have HAC := Lib.hid (accept_any word hw _ pb tb off cap M L q' HJ'.out.psr)
      obtain ⟨f, hf⟩ : ∃ f, seesS word (L.drop q') = f := ⟨_, rfl⟩
      rw [hf] at HAC
      cases f with
      | true =>
        simp only [if_true] at HAC
        have HM2 : Hid (∃ f, (L.drop (q' + 1)).length ≤ f ∧ ((take (L.drop (q' + 1))).bind fun c r => moreS word take f r (es.map (·.1) ++ [c])) = T) := Lib.hid (by
          obtain ⟨f, h1, h2⟩ := HM.out
          have hl := HJ'.out.psr.il
          rw [List.length_drop] at h1
          obtain ⟨f, rfl⟩ : ∃ g, f = g + 1 := ⟨f - 1, by omega⟩
          rw [moreS, if_pos hf, List.tail_drop] at h2
          exact ⟨f, by rw [List.length_drop]; omega, h2⟩)
        clear hf HM
        have hown := HJ'.out.own.lt
        go_wp2_with (go_at_call 122; refine HAC.out.mono ?_; rintro e w2 ⟨rfl, hp2, hk2⟩; have HP2 := Lib.hid hp2; have HK2 := Lib.hid (HJ'.out.kp.trans hk2); have HZ2 := Lib.hid (HJ'.out.z.kp hk2 (by omega)); have HO2 := Lib.hid (HJ'.out.own.kept hk2 (by omega)); clear hp2 hk2)
        have HTK2 := Lib.hid (HTK.out _ (q' + 1) HK2.out HP2.out)
        cases hx : take (L.drop (q' + 1)) with
        | err a x =>
          rw [hx] at HTK2
          have hTe : T = .err a x := by obtain ⟨f, _, h2⟩ := HM2.out; rw [hx] at h2; exact h2.symm
          subst hTe
          go_at_call 98
          refine HTK2.out.mono ?_
          rintro e w3 ⟨rfl, hk3⟩
          go_wp2_with fail
          exact ⟨rfl, rfl, HK2.out.trans hk3⟩
        | ok c' r' =>
          rw [hx] at HTK2
          go_at_call 98
          refine HTK2.out.mono ?_
          rintro e w3 ⟨p', k', rfl, hc3, hk3, q3, hr3, hp3⟩
          have hless' := hless _ _ _ hx
          rw [← hr3, List.length_drop, List.length_drop] at hless'
          have hil := hp3.il
          have hil2 := HJ'.out.psr.il
          have hlen := HJ'.out.len
          have hll := HJ'.out.psr.ll
          have HO3 := Lib.hid (HO2.out.kept hk3 (by omega))
          have HZ3 := Lib.hid (HZ2.out.kp hk3 (by omega))
          have HP3 := Lib.hid hp3
          have HK3 := Lib.hid (HK2.out.trans hk3)
          have hown2 := HO2.out.lt
          have hsz2 := HZ2.out.lt
          have hsz3 := HZ3.out.lt
          have HV3 := Lib.hid (hc3.mono (Q' := fun b => w.heap.size + 1 ≤ b ∧ some b ≠ Value.ownBlock _) fun b hb => ⟨by omega, fun e => by have := (hown2 b e.symm).2; omega⟩)
          have HM3 : Hid (∃ f, (L.drop q3).length ≤ f ∧ moreS word take f (L.drop q3) ((es ++ [(c', p', k')]).map (·.1)) = T) := Lib.hid (by
            obtain ⟨f, h1, h2⟩ := HM2.out
            rw [hx] at h2
            refine ⟨f, by rw [List.length_drop] at h1 ⊢; omega, ?_⟩
            rw [hr3, List.map_append]
            exact h2)
          have hn : es.length ≤ 2000000000000 := by omega
          clear hc3 hk3 hp3 hr3 hx HM2 HTK2 hown hown2
          unfold cV
          go_wp2_with (refine wpList_pushV rfl _ _ rfl (w.heap.size + 1) _ es HO3.out rfl c' p' k' 1 rfl HV3.out hn hsz3 ?_; intro g cap' w4 ho4 hg4; have HJ4 := Lib.hid (JSt.push (q := q') hpb htb HO3.out HP3.out HK3.out HZ3.out hlen (by omega) ho4 hg4); clear ho4 hg4)
          go_roundw
          case rel => exact ⟨_, q3, HJ4, HM3⟩
          case measure => rw [HJ4.out.psr.restOf, HJ'.out.psr.restOf]; omega
      | false =>
        have hTe : T = .ok (es.map (·.1)) (L.drop q') := by
          obtain ⟨f, h1, h2⟩ := HM.out
          cases f with
          | zero => exact h2.symm
          | succ f =>
            rw [moreS, if_neg (by rw [hf]; decide)] at h2
            exact h2.symm
        subst hTe
        clear hf HM HTK
        simp only [Bool.false_eq_true, if_false] at HAC
        have hlen := HJ'.out.len
        have hil2 := HJ'.out.psr.il
        have hll := HJ'.out.psr.ll
        obtain ⟨pp, kk, rfl, hcd⟩ := HJ'.out.own.reads (by omega) kind 0 0
        have HCD := Lib.hid hcd
        clear hcd
        by_cases h1 : es.length = 1
        · obtain ⟨e0, rfl⟩ : ∃ e0, es = [e0] := by
            match es, h1 with
            | [e0], _ => exact ⟨e0, rfl⟩
          go_wp2_with (go_at_call 122; refine HAC.out.mono ?_; rintro e w2 ⟨rfl, hp2, hk2⟩; have HP2 := Lib.hid hp2; have HK2 := Lib.hid (HJ'.out.kp.trans hk2); have HZ2 := Lib.hid (HJ'.out.z.kp hk2 (by omega)); have HC2 := Lib.hid (HCD.out.keep hk2.size fun b hb hl => hk2.block b hl (by omega)); clear hp2 hk2; obtain ⟨u0, u1, u2, u3, z0, z1, z2, z3⟩ := HZ2.out.ex; have f0 := HZ2.out.fz 0; have f1 := HZ2.out.fz 1; have f2 := HZ2.out.fz 2; have f3 := HZ2.out.fz 3; obtain ⟨bb, bo, qq, dd, rfl, y0, y1, y2, y3, hce⟩ := CdIn.part0 HC2.out; have HCE := Lib.hid hce; clear hce)
          have HC := HZ2.out.put (.int .i64 e0.1.k) (.int .i64 e0.1.v) (.int .i64 e0.1.n) (.slice qq e0.1.ps.length dd)
          unfold put4 at HC
          obtain ⟨c0, c1, c2, c3⟩ := HC
          refine bodyPost_ret (v := .agg #[.int .i64 e0.1.k, .int .i64 e0.1.v, .int .i64 e0.1.n, .slice qq e0.1.ps.length dd]) ?_ rfl (put4_end hpb htb HP2.out HK2.out HCE.out _ _ _ _)
          simp [results, Tryz.results99, go_sem, c0, c1, c2, c3]
        · have h1i : ((es.length : Int) == 1) = false := beq_eq_false_iff_ne.2 (by omega)
          have hone := oneS_many kind (es.map (·.1)) (by rw [List.length_map]; exact h1)
          have HONE := Lib.hid hone
          clear hone
          go_wp2_with (go_at_call 122; refine HAC.out.mono ?_; rintro e w2 ⟨rfl, hp2, hk2⟩; have HP2 := Lib.hid hp2; have HK2 := Lib.hid (HJ'.out.kp.trans hk2); have HZ2 := Lib.hid (HJ'.out.z.kp hk2 (by omega)); have HC2 := Lib.hid (HCD.out.keep hk2.size fun b hb hl => hk2.block b hl (by omega)); clear hp2 hk2; obtain ⟨u0, u1, u2, u3, z0, z1, z2, z3⟩ := HZ2.out.ex; have f0 := HZ2.out.fz 0; have f1 := HZ2.out.fz 1; have f2 := HZ2.out.fz 2; have f3 := HZ2.out.fz 3)
          have HC := HZ2.out.put (.int .i64 kind) (.int .i64 0) (.int .i64 0) (.slice pp es.length kk)
          unfold put4 at HC
          obtain ⟨c0, c1, c2, c3⟩ := HC
          have HE := put4_end hpb htb HP2.out HK2.out HC2.out (.int .i64 kind) (.int .i64 0) (.int .i64 0) (.slice pp es.length kk)
          rw [← HONE.out] at HE
          have hcv : cV (oneS kind (es.map (·.1))) pp kk = .agg #[.int .i64 kind, .int .i64 0, .int .i64 0, .slice pp es.length kk] := by rw [HONE.out]; unfold cV; rw [show (Cd.mk kind 0 0 (es.map (·.1))).ps.length = es.length from List.length_map ..]; rfl
          rw [hcv] at HE
          refine bodyPost_ret (v := .agg #[.int .i64 kind, .int .i64 0, .int .i64 0, .slice pp es.length kk]) ?_ rfl HE
          simp [results, Tryz.results99, go_sem, c0, c1, c2, c3]
end Go.Proofs.YtdhdjfkknfbmhaaGreatDoor
