/- Steps of the kind IfS. -/
import Derived.Test.YtdhdjfkknfbmhaaGreatDoorSStep
namespace Go.Proofs.YtdhdjfkknfbmhaaGreatDoor
open Go.RowKit

set_option maxHeartbeats 8000000 in
set_option maxRecDepth 100000 in
theorem step_if (G : P (List St)) (d : Nat) (hd : d < 16) (w : World) (pb tb off cap : Nat) (M : Nat → Value) (L : List Tk) (i : Nat) (h : Psr w pb tb off cap M L i) (hG : GlS w) (hn : seesS wIf (L.drop i) = true)
    (hS : ∀ wx q, GlS wx → Psr wx pb tb off cap M L q → Calls Tryz.prog 33 #[.pointer (some ⟨pb, 0, none⟩), .int .i64 ((d : Int) + 1)] wx fun e w' => EndsT wx pb tb off cap M L (G (L.drop q)) e w') :
    Calls Tryz.prog 91 #[.pointer (some ⟨pb, 0, none⟩), .int .i64 d] w fun e w' => EndsS w pb tb off cap M L (stepWith (some G) (L.drop i)) e w' := by
  have hA := (Below.refl w.heap.size w).alloc (Nat.le_refl _) stZero
  have HK0 := Lib.hid (Kp.ofBelow (sb := pb) hA (Nat.le_refl _))
  have HP0 := Lib.hid (h.bel hA (Nat.le_refl _))
  have HG0 := Lib.hid hG
  have hpb := h.lt
  have htb := h.tlt
  have h9 := h.h9
  have HZ0 := Lib.hid (stZero_new w)
  have HN : Hid (∀ wx, Psr wx pb tb off cap M L i → Calls Tryz.prog 134 #[.pointer (some ⟨pb, 0, none⟩), .string (S wIf), .int .i64 d] wx fun e w' => e = .returned (.bool true) ∧ Psr w' pb tb off cap M L (i + 1) ∧ Kp wx w' pb) := Lib.hid fun wx hx => enter_yes wIf (by decide) d hd wx pb tb off cap M L i hx hn
  have HCD : Hid (∀ wx q, Kp w wx pb → Psr wx pb tb off cap M L q → Calls Tryz.prog 36 #[.pointer (some ⟨pb, 0, none⟩), .int .i64 0] wx fun e w' => EndsC wx pb tb off cap M L (condS 16 (L.drop q)) e w') := Lib.hid fun wx q hk hx => cond_any wx pb tb off cap M L q (HG0.out.kp hk h9).e hx
  have HBL : Hid (∀ wx q, Kp w wx pb → Psr wx pb tb off cap M L q → Calls Tryz.prog 85 #[.pointer (some ⟨pb, 0, none⟩), .int .i64 ((d : Int) + 1)] wx fun e w' => EndsT wx pb tb off cap M L (blockS G (L.drop q)) e w') := Lib.hid fun wx q hk hx => block_any G ((d : Int) + 1) wx pb tb off cap M L q hx (HG0.out.kp hk h9) hS
  have HAC : Hid (∀ wx q, Psr wx pb tb off cap M L q → Calls Tryz.prog 122 #[.pointer (some ⟨pb, 0, none⟩), .string (S wElse)] wx fun e w' => e = .returned (.bool (seesS wElse (L.drop q))) ∧ Psr w' pb tb off cap M L (if seesS wElse (L.drop q) = true then q + 1 else q) ∧ Kp wx w' pb) := Lib.hid fun wx q hx => accept_any wElse (by decide) wx pb tb off cap M L q hx
  have hdi : (d : Int) < 16 := by omega
  have hd0 : (0 : Int) ≤ (d : Int) := by omega
  obtain ⟨R, hR⟩ : ∃ R, stepWith (some G) (L.drop i) = R := ⟨_, rfl⟩
  have HR : Hid (((condS 16 (L.drop (i + 1))).bind fun c r => (blockS G r).bind fun th r =>
      if seesS wElse r = true then (blockS G r.tail).map fun el => St.mk 2 0 c th el else .ok (.mk 2 0 c th []) r) = R) := Lib.hid (by
    rw [← hR]; unfold stepWith; rw [if_pos hn, List.tail_drop])
  rw [hR]
  clear h hA hG hn hR hS HG0 hd
  go_enter Tryz.func91, Tryz.ntmps91
  go_wp2_with fail
  go_at_call 134
  refine (HN.out _ HP0.out).mono ?_
  rintro e w1 ⟨rfl, hp1, hk1⟩
  have HP1 := Lib.hid hp1
  have HK1 := Lib.hid (HK0.out.trans hk1)
  have HZ1 := Lib.hid (HZ0.out.kp hk1 (by omega))
  clear hp1 hk1 HN HP0 HK0 HZ0
  go_wp2_with fail
  go_at_call 36
  refine (HCD.out w1 (i + 1) HK1.out HP1.out).mono ?_
  obtain ⟨T, hT⟩ : ∃ T, condS 16 (L.drop (i + 1)) = T := ⟨_, rfl⟩
  rw [hT]
  have HR1 : Hid ((T.bind fun c r => (blockS G r).bind fun th r =>
      if seesS wElse r = true then (blockS G r.tail).map fun el => St.mk 2 0 c th el else .ok (.mk 2 0 c th []) r) = R) := Lib.hid (by rw [← hT]; exact HR.out)
  clear hT HR HCD
  intro e w2 he
  cases T with
  | err a x =>
    obtain ⟨rfl, hk⟩ := he
    have hRe := HR1.out
    subst hRe
    go_wp2_with fail
    exact ⟨rfl, rfl, HK1.out.trans hk⟩
  | ok c r =>
    obtain ⟨p, k, rfl, hc, hk, q2, rfl, hp⟩ := he
    have hs1 := HZ1.out.lt
    have HZ2 := Lib.hid (HZ1.out.kp hk (by omega))
    have HK2 := Lib.hid (HK1.out.trans hk)
    have HP2 := Lib.hid hp
    have HC2 := Lib.hid (hc.mono (Q' := fun b => w.heap.size + 1 ≤ b) fun b hb => by omega)
    have z0 : w2.cell? ⟨w.heap.size, 0, none⟩ = some (.int .i64 0) := HZ2.out.c 0 _ rfl
    have z2 : w2.cell? ⟨w.heap.size, 2, none⟩ = some (.int .i64 0) := HZ2.out.c 2 _ rfl
    have z3 : w2.cell? ⟨w.heap.size, 3, none⟩ = some (.int .i64 0) := HZ2.out.c 3 _ rfl
    have z4 : w2.cell? ⟨w.heap.size, 4, none⟩ = some (.int .i64 0) := HZ2.out.c 4 _ rfl
    have z5 : w2.cell? ⟨w.heap.size, 5, none⟩ = some (.slice none 0 0) := HZ2.out.c 5 _ rfl
    have f0 := HZ2.out.fz 0
    have f2 := HZ2.out.fz 2
    have f3 := HZ2.out.fz 3
    have f4 := HZ2.out.fz 4
    have f5 := HZ2.out.fz 5
    clear hc hk hp HK1 HP1 HZ1
    have HZ3 := Lib.hid (((((HZ2.out.set 0 (.int .i64 2)).set 2 (.int .i64 c.k)).set 3 (.int .i64 c.v)).set 4 (.int .i64 c.n)).set 5 (.slice p c.ps.length k))
    have hk3 := ((((Kp.own w2 w.heap.size 0 (.int .i64 2)).trans (Kp.own _ w.heap.size 2 (.int .i64 c.k))).trans (Kp.own _ w.heap.size 3 (.int .i64 c.v))).trans (Kp.own _ w.heap.size 4 (.int .i64 c.n))).trans (Kp.own _ w.heap.size 5 (.slice p c.ps.length k))
    have HK3 := Lib.hid (HK2.out.trans2 hk3 (Nat.le_refl _))
    have HP3 := Lib.hid (Cells.psr HP2.out hk3 (by omega) (by omega))
    have HC3 := Lib.hid (HC2.out.keep hk3.size fun b hb hl => hk3.block b hl (by omega))
    clear hk3 HZ2 HK2 HP2 HC2
    unfold cV
    go_wp2_with fail
    clear z0 z2 z3 z4 z5 f0 f2 f3 f4 f5
    generalize ((((w2.setCell ⟨w.heap.size, 0, none⟩ (.int .i64 2)).setCell ⟨w.heap.size, 2, none⟩ (.int .i64 c.k)).setCell ⟨w.heap.size, 3, none⟩ (.int .i64 c.v)).setCell ⟨w.heap.size, 4, none⟩ (.int .i64 c.n)).setCell ⟨w.heap.size, 5, none⟩ (.slice p c.ps.length k) = w3 at *
    go_at_call 85
    refine (HBL.out w3 q2 HK3.out HP3.out).mono ?_
    obtain ⟨T, hT⟩ : ∃ T, blockS G (L.drop q2) = T := ⟨_, rfl⟩
    rw [hT]
    have HR2 : Hid ((T.bind fun th r => if seesS wElse r = true then (blockS G r.tail).map fun el => St.mk 2 0 c th el else .ok (.mk 2 0 c th []) r) = R) := Lib.hid (by rw [← hT]; exact HR1.out)
    clear hT HR1
    intro e w4 he
    cases T with
    | err a x =>
      obtain ⟨rfl, hk⟩ := he
      have hRe := HR2.out
      subst hRe
      go_wp2_with fail
      exact ⟨rfl, rfl, HK3.out.trans hk⟩
    | ok th r =>
      obtain ⟨pt, ct, rfl, hc, hk, q4, rfl, hp⟩ := he
      have hs3 := HZ3.out.lt
      have HZ4 := Lib.hid (HZ3.out.kp hk (by omega))
      have HK4 := Lib.hid (HK3.out.trans hk)
      have HP4 := Lib.hid hp
      have HC4 := Lib.hid (HC3.out.keep hk.size fun b hb hl => hk.block b hl (by omega))
      have HT4 := Lib.hid (hc.mono (Q' := fun b => w.heap.size + 1 ≤ b) fun b hb => by omega)
      have z6 : w4.cell? ⟨w.heap.size, 6, none⟩ = some (.slice none 0 0) := HZ4.out.c 6 _ rfl
      have f6 := HZ4.out.fz 6
      have HZ5 := Lib.hid (HZ4.out.set 6 (.slice pt th.length ct))
      have hk5 := Kp.own w4 w.heap.size 6 (.slice pt th.length ct)
      have HK5 := Lib.hid (HK4.out.trans2 hk5 (Nat.le_refl _))
      have HP5 := Lib.hid (Cells.psr HP4.out hk5 (by omega) (by omega))
      have HC5 := Lib.hid (HC4.out.keep hk5.size fun b hb hl => hk5.block b hl (by omega))
      have HT5 := Lib.hid (HT4.out.keep hk5.size fun b hb hl => hk5.block b hl (by omega))
      clear hc hk hp hk5 HZ3 HK3 HP3 HC3 HZ4 HK4 HP4 HC4 HT4
      go_wp2_with fail
      clear z6 f6
      generalize w4.setCell ⟨w.heap.size, 6, none⟩ (.slice pt th.length ct) = w5 at *
      go_at_call 122
      refine (HAC.out w5 q4 HP5.out).mono ?_
      have HR3 : Hid ((if seesS wElse (L.drop q4) = true then (blockS G (L.drop (q4 + 1))).map fun el => St.mk 2 0 c th el else .ok (.mk 2 0 c th []) (L.drop q4)) = R) := Lib.hid (by rw [← List.tail_drop]; exact HR2.out)
      clear HR2
      intro e w6 he
      obtain ⟨rfl, hp, hk⟩ := he
      have hs5 := HZ5.out.lt
      have HZ6 := Lib.hid (HZ5.out.kp hk (by omega))
      have HK6 := Lib.hid (HK5.out.trans hk)
      have HC6 := Lib.hid (HC5.out.keep hk.size fun b hb hl => hk.block b hl (by omega))
      have HT6 := Lib.hid (HT5.out.keep hk.size fun b hb hl => hk.block b hl (by omega))
      have HP6 := Lib.hid hp
      clear hk hp HZ5 HK5 HC5 HT5 HP5
      obtain ⟨f, hf⟩ : ∃ f, seesS wElse (L.drop q4) = f := ⟨_, rfl⟩
      rw [hf] at HP6 HR3
      rw [hf]
      clear hf
      cases f with
      | false =>
        have hRe := HR3.out
        change PR.ok (St.mk 2 0 c th []) (L.drop q4) = R at hRe
        subst hRe
        have HPE : Hid (Psr w6 pb tb off cap M L q4) := HP6
        have HKE := HK6
        have HZE := HZ6
        have HY := Lib.hid (putL_cells HZE.out [.int .i64 2, .int .i64 0, .int .i64 c.k, .int .i64 c.v, .int .i64 c.n, .slice p c.ps.length k, .slice pt th.length ct, .slice none 0 0] rfl)
        have HE := Lib.hid (putS_end (s := .mk 2 0 c th []) (x := ⟨p, k, pt, ct, none, 0⟩) hpb htb HPE.out HKE.out ⟨HC6.out, HT6.out, SsIn.nil⟩ [.int .i64 2, .int .i64 0, .int .i64 c.k, .int .i64 c.v, .int .i64 c.n, .slice p c.ps.length k, .slice pt th.length ct, .slice none 0 0])
        have z0 : w6.cell? ⟨w.heap.size, 0, none⟩ = some (.int .i64 2) := HZE.out.c 0 _ rfl
        have f0 := HZE.out.fz 0
        have z1 : w6.cell? ⟨w.heap.size, 1, none⟩ = some (.int .i64 0) := HZE.out.c 1 _ rfl
        have f1 := HZE.out.fz 1
        have z2 : w6.cell? ⟨w.heap.size, 2, none⟩ = some (.int .i64 c.k) := HZE.out.c 2 _ rfl
        have f2 := HZE.out.fz 2
        have z3 : w6.cell? ⟨w.heap.size, 3, none⟩ = some (.int .i64 c.v) := HZE.out.c 3 _ rfl
        have f3 := HZE.out.fz 3
        have z4 : w6.cell? ⟨w.heap.size, 4, none⟩ = some (.int .i64 c.n) := HZE.out.c 4 _ rfl
        have f4 := HZE.out.fz 4
        have z5 : w6.cell? ⟨w.heap.size, 5, none⟩ = some (.slice p c.ps.length k) := HZE.out.c 5 _ rfl
        have f5 := HZE.out.fz 5
        have z6 : w6.cell? ⟨w.heap.size, 6, none⟩ = some (.slice pt th.length ct) := HZE.out.c 6 _ rfl
        have f6 := HZE.out.fz 6
        have z7 : w6.cell? ⟨w.heap.size, 7, none⟩ = some (.slice none 0 0) := HZE.out.c 7 _ rfl
        have f7 := HZE.out.fz 7
        have hc := HY.out.c
        simp only [putL, Nat.zero_add, Nat.reduceAdd] at hc
        have c0 := hc 0 _ rfl
        have c1 := hc 1 _ rfl
        have c2 := hc 2 _ rfl
        have c3 := hc 3 _ rfl
        have c4 := hc 4 _ rfl
        have c5 := hc 5 _ rfl
        have c6 := hc 6 _ rfl
        have c7 := hc 7 _ rfl
        clear hc
        have HC := Lib.hid (And.intro c0 (And.intro c1 (And.intro c2 (And.intro c3 (And.intro c4 (And.intro c5 (And.intro c6 c7)))))))
        clear c0 c1 c2 c3 c4 c5 c6 c7 HY HZE HPE HKE
        go_wp2_with fail
        obtain ⟨c0, c1, c2, c3, c4, c5, c6, c7⟩ := HC.out
        refine bodyPost_ret (v := sV (.mk 2 0 c th []) ⟨p, k, pt, ct, none, 0⟩) ?_ rfl HE.out
        simp [results, Tryz.results91, go_sem, c0, c1, c2, c3, c4, c5, c6, c7]
        rfl
      | true =>
        have HP7 : Hid (Psr w6 pb tb off cap M L (q4 + 1)) := HP6
        go_wp2_with fail
        go_at_call 85
        refine (HBL.out w6 (q4 + 1) HK6.out HP7.out).mono ?_
        obtain ⟨T, hT⟩ : ∃ T, blockS G (L.drop (q4 + 1)) = T := ⟨_, rfl⟩
        rw [hT]
        have HR4 : Hid ((T.map fun el => St.mk 2 0 c th el) = R) := Lib.hid (by rw [← hT]; exact HR3.out)
        clear hT HR3
        intro e w7 he
        cases T with
        | err a x =>
          obtain ⟨rfl, hk⟩ := he
          have hRe := HR4.out
          subst hRe
          go_wp2_with fail
          exact ⟨rfl, rfl, HK6.out.trans hk⟩
        | ok el r =>
          obtain ⟨pe, ce, rfl, hc, hk, q7, rfl, hp⟩ := he
          have hRe := HR4.out
          change PR.ok (St.mk 2 0 c th el) (L.drop q7) = R at hRe
          subst hRe
          have hs6 := HZ6.out.lt
          have HZ7 := Lib.hid (HZ6.out.kp hk (by omega))
          have HK7 := Lib.hid (HK6.out.trans hk)
          have HP8 := Lib.hid hp
          have HC7 := Lib.hid (HC6.out.keep hk.size fun b hb hl => hk.block b hl (by omega))
          have HT7 := Lib.hid (HT6.out.keep hk.size fun b hb hl => hk.block b hl (by omega))
          have HE7 := Lib.hid (hc.mono (Q' := fun b => w.heap.size + 1 ≤ b) fun b hb => by omega)
          have z7 : w7.cell? ⟨w.heap.size, 7, none⟩ = some (.slice none 0 0) := HZ7.out.c 7 _ rfl
          have f7 := HZ7.out.fz 7
          have HZE := Lib.hid (HZ7.out.set 7 (.slice pe el.length ce))
          have hk8 := Kp.own w7 w.heap.size 7 (.slice pe el.length ce)
          have HKE := Lib.hid (HK7.out.trans2 hk8 (Nat.le_refl _))
          have HPE := Lib.hid (Cells.psr HP8.out hk8 (by omega) (by omega))
          have HC8 := Lib.hid (HC7.out.keep hk8.size fun b hb hl => hk8.block b hl (by omega))
          have HT8 := Lib.hid (HT7.out.keep hk8.size fun b hb hl => hk8.block b hl (by omega))
          have HE8 := Lib.hid (HE7.out.keep hk8.size fun b hb hl => hk8.block b hl (by omega))
          clear hc hk hp hk8 HZ6 HK6 HP6 HP7 HC6 HT6 HZ7 HK7 HP8 HC7 HT7 HE7
          have HY := Lib.hid (putL_cells HZE.out [.int .i64 2, .int .i64 0, .int .i64 c.k, .int .i64 c.v, .int .i64 c.n, .slice p c.ps.length k, .slice pt th.length ct, .slice pe el.length ce] rfl)
          have HE := Lib.hid (putS_end (s := .mk 2 0 c th el) (x := ⟨p, k, pt, ct, pe, ce⟩) hpb htb HPE.out HKE.out ⟨HC8.out, HT8.out, HE8.out⟩ [.int .i64 2, .int .i64 0, .int .i64 c.k, .int .i64 c.v, .int .i64 c.n, .slice p c.ps.length k, .slice pt th.length ct, .slice pe el.length ce])
          have z0 : (w7.setCell ⟨w.heap.size, 7, none⟩ (.slice pe el.length ce)).cell? ⟨w.heap.size, 0, none⟩ = some (.int .i64 2) := HZE.out.c 0 _ rfl
          have f0 := HZE.out.fz 0
          have z1 : (w7.setCell ⟨w.heap.size, 7, none⟩ (.slice pe el.length ce)).cell? ⟨w.heap.size, 1, none⟩ = some (.int .i64 0) := HZE.out.c 1 _ rfl
          have f1 := HZE.out.fz 1
          have z2 : (w7.setCell ⟨w.heap.size, 7, none⟩ (.slice pe el.length ce)).cell? ⟨w.heap.size, 2, none⟩ = some (.int .i64 c.k) := HZE.out.c 2 _ rfl
          have f2 := HZE.out.fz 2
          have z3 : (w7.setCell ⟨w.heap.size, 7, none⟩ (.slice pe el.length ce)).cell? ⟨w.heap.size, 3, none⟩ = some (.int .i64 c.v) := HZE.out.c 3 _ rfl
          have f3 := HZE.out.fz 3
          have z4 : (w7.setCell ⟨w.heap.size, 7, none⟩ (.slice pe el.length ce)).cell? ⟨w.heap.size, 4, none⟩ = some (.int .i64 c.n) := HZE.out.c 4 _ rfl
          have f4 := HZE.out.fz 4
          have z5 : (w7.setCell ⟨w.heap.size, 7, none⟩ (.slice pe el.length ce)).cell? ⟨w.heap.size, 5, none⟩ = some (.slice p c.ps.length k) := HZE.out.c 5 _ rfl
          have f5 := HZE.out.fz 5
          have z6 : (w7.setCell ⟨w.heap.size, 7, none⟩ (.slice pe el.length ce)).cell? ⟨w.heap.size, 6, none⟩ = some (.slice pt th.length ct) := HZE.out.c 6 _ rfl
          have f6 := HZE.out.fz 6
          have zz7 : (w7.setCell ⟨w.heap.size, 7, none⟩ (.slice pe el.length ce)).cell? ⟨w.heap.size, 7, none⟩ = some (.slice pe el.length ce) := HZE.out.c 7 _ rfl
          have ff7 := HZE.out.fz 7
          have hc := HY.out.c
          simp only [putL, Nat.zero_add, Nat.reduceAdd] at hc
          have c0 := hc 0 _ rfl
          have c1 := hc 1 _ rfl
          have c2 := hc 2 _ rfl
          have c3 := hc 3 _ rfl
          have c4 := hc 4 _ rfl
          have c5 := hc 5 _ rfl
          have c6 := hc 6 _ rfl
          have c7 := hc 7 _ rfl
          clear hc
          have HC := Lib.hid (And.intro c0 (And.intro c1 (And.intro c2 (And.intro c3 (And.intro c4 (And.intro c5 (And.intro c6 c7)))))))
          clear c0 c1 c2 c3 c4 c5 c6 c7 HY HZE HPE HKE
          go_wp2_with fail
          obtain ⟨c0, c1, c2, c3, c4, c5, c6, c7⟩ := HC.out
          refine bodyPost_ret (v := sV (.mk 2 0 c th el) ⟨p, k, pt, ct, pe, ce⟩) ?_ rfl HE.out
          simp [results, Tryz.results91, go_sem, c0, c1, c2, c3, c4, c5, c6, c7]
          rfl
end Go.Proofs.YtdhdjfkknfbmhaaGreatDoor
