/- The ranges of a course's numbers. -/
import Derived.Test.YtabdgnigmlpeaaaGreatDoorTXK
import Derived.Test.YtabdgnigmlpeaaaGreatDoorTXR
import Derived.Test.YtabdgnigmlpeaaaGreatDoorTXE
import Derived.Deep.CutBlock
namespace Go.Proofs.YtabdgnigmlpeaaaGreatDoor
open Go.RowKit

def rangeE (c : Crs) : Bool := c.mats.all matR && (c.legs.all (legR c.mats.length) && (decide (c.legs.map endsOf).Nodup && (c.dists.all (distR c.mats.length) && (c.waves.all waveR && (c.offs.all offR && (c.cats.all catR && (c.prizes.all (prizeR c.dists.length c.cats.length) && (decide (c.prizes.map threeOf).Nodup && (faultsR c.fm c.fs c.fw c.fr c.fd && (inI 0 1125899906842624 c.fee && (inI 0 1099511627776 c.dl)))))))))))
set_option maxHeartbeats 16000000 in
set_option maxRecDepth 100000 in
theorem range_course {w : World} {Q : Nat → Prop} {c : Crs} {x : CLoc} (h : CourseIn w Q c x) (hl : limE c = true) (hwl : ∀ z ∈ c.legs, WfE (endsOf z)) (hwp : ∀ z ∈ c.prizes, WfT (threeOf z)) :
    Calls Tryz.prog 39 #[courseV c x] w fun e w' => e = .returned (.bool (rangeE c)) ∧ Below w.heap.size w w' := by
  unfold limE at hl
  simp only [Bool.and_eq_true, decide_eq_true_eq] at hl
  obtain ⟨l1, l2, l3, l4, l5, l6, l7, -⟩ := hl
  have hA := (Below.refl w.heap.size w).alloc (Nat.le_refl _) (.cells (cellsC c x).toArray 33)
  have HA := Lib.hid hA
  have N0 : Hid (∀ W, Below w.heap.size w W → Calls Tryz.prog 75 #[.slice x.pm c.mats.length x.cm, .func (Fn.func 76) #[] #[]] W fun e w' => e = .returned (.bool (c.mats.all matR)) ∧ Below W.heap.size W w') := Lib.hid fun W hW => mats_all (h.mats.bel hW)
  have N1 : Hid (∀ W, Below w.heap.size w W → W.cell? ⟨w.heap.size, 1, none⟩ = some (.slice x.pm c.mats.length x.cm) → Calls Tryz.prog 77 #[.slice x.pl c.legs.length x.cl, .func (Fn.func 71) #[] #[.pointer (some ⟨w.heap.size, 0, none⟩)]] W fun e w' => e = .returned (.bool (c.legs.all (legR c.mats.length))) ∧ Below W.heap.size W w') := Lib.hid fun W hW k1 => legs_all _ (by omega) _ _ _ (h.legs.bel hW) k1
  have N2 : Hid (∀ W, Below w.heap.size w W → Calls Tryz.prog 78 #[.slice x.pl c.legs.length x.cl, .func (Fn.func 79) #[] #[]] W fun e w' => e = .returned (.bool (decide (c.legs.map endsOf).Nodup)) ∧ Below W.heap.size W w') := Lib.hid fun W hW => distinct_leg (h.legs.bel hW) (by omega) hwl
  have N3 : Hid (∀ W, Below w.heap.size w W → W.cell? ⟨w.heap.size, 1, none⟩ = some (.slice x.pm c.mats.length x.cm) → Calls Tryz.prog 56 #[.slice x.pd c.dists.length x.cd, .func (Fn.func 80) #[] #[.pointer (some ⟨w.heap.size, 0, none⟩)]] W fun e w' => e = .returned (.bool (c.dists.all (distR c.mats.length))) ∧ Below W.heap.size W w') := Lib.hid fun W hW k1 => dists_all _ (by omega) _ _ _ (h.dists.keep2 hW.size fun b h1 hl => ⟨h1, hW.block b hl⟩) k1
  have N4 : Hid (∀ W, Below w.heap.size w W → Calls Tryz.prog 82 #[.slice x.pw c.waves.length x.cw, .func (Fn.func 83) #[] #[]] W fun e w' => e = .returned (.bool (c.waves.all waveR)) ∧ Below W.heap.size W w') := Lib.hid fun W hW => waves_all (h.waves.bel hW)
  have N5 : Hid (∀ W, Below w.heap.size w W → Calls Tryz.prog 84 #[.slice x.po c.offs.length x.co, .func (Fn.func 85) #[] #[]] W fun e w' => e = .returned (.bool (c.offs.all offR)) ∧ Below W.heap.size W w') := Lib.hid fun W hW => offs_all (h.offs.bel hW)
  have N6 : Hid (∀ W, Below w.heap.size w W → Calls Tryz.prog 86 #[.slice x.pc c.cats.length x.cc, .func (Fn.func 87) #[] #[]] W fun e w' => e = .returned (.bool (c.cats.all catR)) ∧ Below W.heap.size W w') := Lib.hid fun W hW => cats_all (h.cats.bel hW)
  have N7 : Hid (∀ W, Below w.heap.size w W → W.cell? ⟨w.heap.size, 3, none⟩ = some (.slice x.pd c.dists.length x.cd) → W.cell? ⟨w.heap.size, 6, none⟩ = some (.slice x.pc c.cats.length x.cc) → Calls Tryz.prog 88 #[.slice x.pz c.prizes.length x.cz, .func (Fn.func 74) #[] #[.pointer (some ⟨w.heap.size, 0, none⟩)]] W fun e w' => e = .returned (.bool (c.prizes.all (prizeR c.dists.length c.cats.length))) ∧ Below W.heap.size W w') := Lib.hid fun W hW k3 k6 => prizes_all _ _ (by omega) (by omega) _ _ _ _ _ (h.prizes.bel hW) k3 k6
  have N8 : Hid (∀ W, Below w.heap.size w W → Calls Tryz.prog 89 #[.slice x.pz c.prizes.length x.cz, .func (Fn.func 90) #[] #[]] W fun e w' => e = .returned (.bool (decide (c.prizes.map threeOf).Nodup)) ∧ Below W.heap.size W w') := Lib.hid fun W hW => distinct_prize (h.prizes.bel hW) (by omega) hwp
  have N9 : Hid (∀ W, Below w.heap.size w W → Calls Tryz.prog 91 #[.agg #[.int .i64 c.fm, .int .i64 c.fs, .int .i64 c.fw, .int .i64 c.fr, .int .i64 c.fd]] W fun e w' => e = .returned (.bool (faultsR c.fm c.fs c.fw c.fr c.fd)) ∧ Below W.heap.size W w') := Lib.hid fun W hW => faults_any _ _ _ _ _ W
  have N10 : Hid (∀ W k, W.heap.size = k → Calls Tryz.prog 51 #[.int .i64 0, .int .i64 1125899906842624, .slice (some ⟨k, 0, none⟩) 1 1] (W.alloc (.cells #[.int .i64 c.fee] 3)) fun e w' => e = .returned (.bool (inI 0 1125899906842624 c.fee)) ∧ Below W.heap.size W w') := Lib.hid fun W k hk => w1_any 0 1125899906842624 c.fee W k hk
  have N11 : Hid (∀ W k, W.heap.size = k → Calls Tryz.prog 51 #[.int .i64 0, .int .i64 1099511627776, .slice (some ⟨k, 0, none⟩) 1 1] (W.alloc (.cells #[.int .i64 c.dl] 3)) fun e w' => e = .returned (.bool (inI 0 1099511627776 c.dl)) ∧ Below W.heap.size W w') := Lib.hid fun W k hk => w1_any 0 1099511627776 c.dl W k hk
  unfold rangeE courseV
  unfold cellsC at *
  have HX : Hid (∀ V, V = w.alloc (.cells #[.string c.n, .slice x.pm c.mats.length x.cm, .slice x.pl c.legs.length x.cl, .slice x.pd c.dists.length x.cd, .slice x.pw c.waves.length x.cw, .slice x.po c.offs.length x.co, .slice x.pc c.cats.length x.cc, .slice x.pz c.prizes.length x.cz, .slice x.pt c.ties.length x.ct, .int .i64 c.fm, .int .i64 c.fs, .int .i64 c.fw, .int .i64 c.fr, .int .i64 c.fd, .int .i64 c.fee, .int .i64 c.dl] 33) → ∀ w', Below V.heap.size V w' → w'.cell? ⟨w.heap.size, 1, none⟩ = some (.slice x.pm c.mats.length x.cm) ∧ w'.cell? ⟨w.heap.size, 2, none⟩ = some (.slice x.pl c.legs.length x.cl) ∧ w'.cell? ⟨w.heap.size, 3, none⟩ = some (.slice x.pd c.dists.length x.cd) ∧ w'.cell? ⟨w.heap.size, 4, none⟩ = some (.slice x.pw c.waves.length x.cw) ∧ w'.cell? ⟨w.heap.size, 5, none⟩ = some (.slice x.po c.offs.length x.co) ∧ w'.cell? ⟨w.heap.size, 6, none⟩ = some (.slice x.pc c.cats.length x.cc) ∧ w'.cell? ⟨w.heap.size, 7, none⟩ = some (.slice x.pz c.prizes.length x.cz) ∧ w'.cell? ⟨w.heap.size, 9, none⟩ = some (.int .i64 c.fm) ∧ w'.cell? ⟨w.heap.size, 10, none⟩ = some (.int .i64 c.fs) ∧ w'.cell? ⟨w.heap.size, 11, none⟩ = some (.int .i64 c.fw) ∧ w'.cell? ⟨w.heap.size, 12, none⟩ = some (.int .i64 c.fr) ∧ w'.cell? ⟨w.heap.size, 13, none⟩ = some (.int .i64 c.fd) ∧ w'.cell? ⟨w.heap.size, 14, none⟩ = some (.int .i64 c.fee) ∧ w'.cell? ⟨w.heap.size, 15, none⟩ = some (.int .i64 c.dl)) := Lib.hid fun V e w' hb => by
    subst e
    exact ⟨keepc hb (by simp [go_sem]), keepc hb (by simp [go_sem]), keepc hb (by simp [go_sem]), keepc hb (by simp [go_sem]), keepc hb (by simp [go_sem]), keepc hb (by simp [go_sem]), keepc hb (by simp [go_sem]), keepc hb (by simp [go_sem]), keepc hb (by simp [go_sem]), keepc hb (by simp [go_sem]), keepc hb (by simp [go_sem]), keepc hb (by simp [go_sem]), keepc hb (by simp [go_sem]), keepc hb (by simp [go_sem])⟩
  clear h hA hwl hwp l1 l2 l3 l4 l5 l6 l7
  generalize c.mats.all matR = q0 at *
  generalize c.legs.all (legR c.mats.length) = q1 at *
  generalize decide (c.legs.map endsOf).Nodup = q2 at *
  generalize c.dists.all (distR c.mats.length) = q3 at *
  generalize c.waves.all waveR = q4 at *
  generalize c.offs.all offR = q5 at *
  generalize c.cats.all catR = q6 at *
  generalize c.prizes.all (prizeR c.dists.length c.cats.length) = q7 at *
  generalize decide (c.prizes.map threeOf).Nodup = q8 at *
  generalize faultsR c.fm c.fs c.fw c.fr c.fd = q9 at *
  generalize inI 0 1125899906842624 c.fee = q10 at *
  generalize inI 0 1099511627776 c.dl = q11 at *
  cases q0 with
  | false =>
    go_enter Tryz.func39, Tryz.ntmps39
    go_wp2_with (first
      | (go_at_call 75; (with_reducible refine (N0.out _ HA.out).mono ?_); rintro e w0 ⟨rfl, hb⟩; have hv0 := hb; obtain ⟨z0_1, z0_2, z0_3, z0_4, z0_5, z0_6, z0_7, z0_9, z0_10, z0_11, z0_12, z0_13, z0_14, z0_15⟩ := HX.out _ rfl w0 hv0; have HB0 := Lib.hid (HA.out.trans (hb.mono HA.out.size)); clear hb))
    go_ret
    exact ⟨by simp, HB0.out⟩
  | true =>
    cases q1 with
    | false =>
      go_enter Tryz.func39, Tryz.ntmps39
      go_wp2_with (first
        | (go_at_call 75; (with_reducible refine (N0.out _ HA.out).mono ?_); rintro e w0 ⟨rfl, hb⟩; have hv0 := hb; obtain ⟨z0_1, z0_2, z0_3, z0_4, z0_5, z0_6, z0_7, z0_9, z0_10, z0_11, z0_12, z0_13, z0_14, z0_15⟩ := HX.out _ rfl w0 hv0; have HB0 := Lib.hid (HA.out.trans (hb.mono HA.out.size)); clear hb)
        | (go_at_call 77; (with_reducible refine (N1.out _ HB0.out z0_1).mono ?_); rintro e w1 ⟨rfl, hb⟩; have hv1 := hv0.trans (hb.mono hv0.size); obtain ⟨z1_1, z1_2, z1_3, z1_4, z1_5, z1_6, z1_7, z1_9, z1_10, z1_11, z1_12, z1_13, z1_14, z1_15⟩ := HX.out _ rfl w1 hv1; have HB1 := Lib.hid (HB0.out.trans (hb.mono HB0.out.size)); clear hb))
      go_ret
      exact ⟨by simp, HB1.out⟩
    | true =>
      cases q2 with
      | false =>
        go_enter Tryz.func39, Tryz.ntmps39
        go_wp2_with (first
          | (go_at_call 75; (with_reducible refine (N0.out _ HA.out).mono ?_); rintro e w0 ⟨rfl, hb⟩; have hv0 := hb; obtain ⟨z0_1, z0_2, z0_3, z0_4, z0_5, z0_6, z0_7, z0_9, z0_10, z0_11, z0_12, z0_13, z0_14, z0_15⟩ := HX.out _ rfl w0 hv0; have HB0 := Lib.hid (HA.out.trans (hb.mono HA.out.size)); clear hb)
          | (go_at_call 77; (with_reducible refine (N1.out _ HB0.out z0_1).mono ?_); rintro e w1 ⟨rfl, hb⟩; have hv1 := hv0.trans (hb.mono hv0.size); obtain ⟨z1_1, z1_2, z1_3, z1_4, z1_5, z1_6, z1_7, z1_9, z1_10, z1_11, z1_12, z1_13, z1_14, z1_15⟩ := HX.out _ rfl w1 hv1; have HB1 := Lib.hid (HB0.out.trans (hb.mono HB0.out.size)); clear hb)
          | (go_at_call 78; (with_reducible refine (N2.out _ HB1.out).mono ?_); rintro e w2 ⟨rfl, hb⟩; have hv2 := hv1.trans (hb.mono hv1.size); obtain ⟨z2_1, z2_2, z2_3, z2_4, z2_5, z2_6, z2_7, z2_9, z2_10, z2_11, z2_12, z2_13, z2_14, z2_15⟩ := HX.out _ rfl w2 hv2; have HB2 := Lib.hid (HB1.out.trans (hb.mono HB1.out.size)); clear hb))
        go_ret
        exact ⟨by simp, HB2.out⟩
      | true =>
        cases q3 with
        | false =>
          go_enter Tryz.func39, Tryz.ntmps39
          go_wp2_with (first
            | (go_at_call 75; (with_reducible refine (N0.out _ HA.out).mono ?_); rintro e w0 ⟨rfl, hb⟩; have hv0 := hb; obtain ⟨z0_1, z0_2, z0_3, z0_4, z0_5, z0_6, z0_7, z0_9, z0_10, z0_11, z0_12, z0_13, z0_14, z0_15⟩ := HX.out _ rfl w0 hv0; have HB0 := Lib.hid (HA.out.trans (hb.mono HA.out.size)); clear hb)
            | (go_at_call 77; (with_reducible refine (N1.out _ HB0.out z0_1).mono ?_); rintro e w1 ⟨rfl, hb⟩; have hv1 := hv0.trans (hb.mono hv0.size); obtain ⟨z1_1, z1_2, z1_3, z1_4, z1_5, z1_6, z1_7, z1_9, z1_10, z1_11, z1_12, z1_13, z1_14, z1_15⟩ := HX.out _ rfl w1 hv1; have HB1 := Lib.hid (HB0.out.trans (hb.mono HB0.out.size)); clear hb)
            | (go_at_call 78; (with_reducible refine (N2.out _ HB1.out).mono ?_); rintro e w2 ⟨rfl, hb⟩; have hv2 := hv1.trans (hb.mono hv1.size); obtain ⟨z2_1, z2_2, z2_3, z2_4, z2_5, z2_6, z2_7, z2_9, z2_10, z2_11, z2_12, z2_13, z2_14, z2_15⟩ := HX.out _ rfl w2 hv2; have HB2 := Lib.hid (HB1.out.trans (hb.mono HB1.out.size)); clear hb)
            | (go_at_call 56; (with_reducible refine (N3.out _ HB2.out z2_1).mono ?_); rintro e w3 ⟨rfl, hb⟩; have hv3 := hv2.trans (hb.mono hv2.size); obtain ⟨z3_1, z3_2, z3_3, z3_4, z3_5, z3_6, z3_7, z3_9, z3_10, z3_11, z3_12, z3_13, z3_14, z3_15⟩ := HX.out _ rfl w3 hv3; have HB3 := Lib.hid (HB2.out.trans (hb.mono HB2.out.size)); clear hb))
          go_ret
          exact ⟨by simp, HB3.out⟩
        | true =>
          cases q4 with
          | false =>
            go_enter Tryz.func39, Tryz.ntmps39
            go_wp2_with (first
              | (go_at_call 75; (with_reducible refine (N0.out _ HA.out).mono ?_); rintro e w0 ⟨rfl, hb⟩; have hv0 := hb; obtain ⟨z0_1, z0_2, z0_3, z0_4, z0_5, z0_6, z0_7, z0_9, z0_10, z0_11, z0_12, z0_13, z0_14, z0_15⟩ := HX.out _ rfl w0 hv0; have HB0 := Lib.hid (HA.out.trans (hb.mono HA.out.size)); clear hb)
              | (go_at_call 77; (with_reducible refine (N1.out _ HB0.out z0_1).mono ?_); rintro e w1 ⟨rfl, hb⟩; have hv1 := hv0.trans (hb.mono hv0.size); obtain ⟨z1_1, z1_2, z1_3, z1_4, z1_5, z1_6, z1_7, z1_9, z1_10, z1_11, z1_12, z1_13, z1_14, z1_15⟩ := HX.out _ rfl w1 hv1; have HB1 := Lib.hid (HB0.out.trans (hb.mono HB0.out.size)); clear hb)
              | (go_at_call 78; (with_reducible refine (N2.out _ HB1.out).mono ?_); rintro e w2 ⟨rfl, hb⟩; have hv2 := hv1.trans (hb.mono hv1.size); obtain ⟨z2_1, z2_2, z2_3, z2_4, z2_5, z2_6, z2_7, z2_9, z2_10, z2_11, z2_12, z2_13, z2_14, z2_15⟩ := HX.out _ rfl w2 hv2; have HB2 := Lib.hid (HB1.out.trans (hb.mono HB1.out.size)); clear hb)
              | (go_at_call 56; (with_reducible refine (N3.out _ HB2.out z2_1).mono ?_); rintro e w3 ⟨rfl, hb⟩; have hv3 := hv2.trans (hb.mono hv2.size); obtain ⟨z3_1, z3_2, z3_3, z3_4, z3_5, z3_6, z3_7, z3_9, z3_10, z3_11, z3_12, z3_13, z3_14, z3_15⟩ := HX.out _ rfl w3 hv3; have HB3 := Lib.hid (HB2.out.trans (hb.mono HB2.out.size)); clear hb)
              | (go_at_call 82; (with_reducible refine (N4.out _ HB3.out).mono ?_); rintro e w4 ⟨rfl, hb⟩; have hv4 := hv3.trans (hb.mono hv3.size); obtain ⟨z4_1, z4_2, z4_3, z4_4, z4_5, z4_6, z4_7, z4_9, z4_10, z4_11, z4_12, z4_13, z4_14, z4_15⟩ := HX.out _ rfl w4 hv4; have HB4 := Lib.hid (HB3.out.trans (hb.mono HB3.out.size)); clear hb))
            go_ret
            exact ⟨by simp, HB4.out⟩
          | true =>
            cases q5 with
            | false =>
              go_enter Tryz.func39, Tryz.ntmps39
              go_wp2_with (first
                | (go_at_call 75; (with_reducible refine (N0.out _ HA.out).mono ?_); rintro e w0 ⟨rfl, hb⟩; have hv0 := hb; obtain ⟨z0_1, z0_2, z0_3, z0_4, z0_5, z0_6, z0_7, z0_9, z0_10, z0_11, z0_12, z0_13, z0_14, z0_15⟩ := HX.out _ rfl w0 hv0; have HB0 := Lib.hid (HA.out.trans (hb.mono HA.out.size)); clear hb)
                | (go_at_call 77; (with_reducible refine (N1.out _ HB0.out z0_1).mono ?_); rintro e w1 ⟨rfl, hb⟩; have hv1 := hv0.trans (hb.mono hv0.size); obtain ⟨z1_1, z1_2, z1_3, z1_4, z1_5, z1_6, z1_7, z1_9, z1_10, z1_11, z1_12, z1_13, z1_14, z1_15⟩ := HX.out _ rfl w1 hv1; have HB1 := Lib.hid (HB0.out.trans (hb.mono HB0.out.size)); clear hb)
                | (go_at_call 78; (with_reducible refine (N2.out _ HB1.out).mono ?_); rintro e w2 ⟨rfl, hb⟩; have hv2 := hv1.trans (hb.mono hv1.size); obtain ⟨z2_1, z2_2, z2_3, z2_4, z2_5, z2_6, z2_7, z2_9, z2_10, z2_11, z2_12, z2_13, z2_14, z2_15⟩ := HX.out _ rfl w2 hv2; have HB2 := Lib.hid (HB1.out.trans (hb.mono HB1.out.size)); clear hb)
                | (go_at_call 56; (with_reducible refine (N3.out _ HB2.out z2_1).mono ?_); rintro e w3 ⟨rfl, hb⟩; have hv3 := hv2.trans (hb.mono hv2.size); obtain ⟨z3_1, z3_2, z3_3, z3_4, z3_5, z3_6, z3_7, z3_9, z3_10, z3_11, z3_12, z3_13, z3_14, z3_15⟩ := HX.out _ rfl w3 hv3; have HB3 := Lib.hid (HB2.out.trans (hb.mono HB2.out.size)); clear hb)
                | (go_at_call 82; (with_reducible refine (N4.out _ HB3.out).mono ?_); rintro e w4 ⟨rfl, hb⟩; have hv4 := hv3.trans (hb.mono hv3.size); obtain ⟨z4_1, z4_2, z4_3, z4_4, z4_5, z4_6, z4_7, z4_9, z4_10, z4_11, z4_12, z4_13, z4_14, z4_15⟩ := HX.out _ rfl w4 hv4; have HB4 := Lib.hid (HB3.out.trans (hb.mono HB3.out.size)); clear hb)
                | (go_at_call 84; (with_reducible refine (N5.out _ HB4.out).mono ?_); rintro e w5 ⟨rfl, hb⟩; have hv5 := hv4.trans (hb.mono hv4.size); obtain ⟨z5_1, z5_2, z5_3, z5_4, z5_5, z5_6, z5_7, z5_9, z5_10, z5_11, z5_12, z5_13, z5_14, z5_15⟩ := HX.out _ rfl w5 hv5; have HB5 := Lib.hid (HB4.out.trans (hb.mono HB4.out.size)); clear hb))
              go_ret
              exact ⟨by simp, HB5.out⟩
            | true =>
              cases q6 with
              | false =>
                go_enter Tryz.func39, Tryz.ntmps39
                go_wp2_with (first
                  | (go_at_call 75; (with_reducible refine (N0.out _ HA.out).mono ?_); rintro e w0 ⟨rfl, hb⟩; have hv0 := hb; obtain ⟨z0_1, z0_2, z0_3, z0_4, z0_5, z0_6, z0_7, z0_9, z0_10, z0_11, z0_12, z0_13, z0_14, z0_15⟩ := HX.out _ rfl w0 hv0; have HB0 := Lib.hid (HA.out.trans (hb.mono HA.out.size)); clear hb)
                  | (go_at_call 77; (with_reducible refine (N1.out _ HB0.out z0_1).mono ?_); rintro e w1 ⟨rfl, hb⟩; have hv1 := hv0.trans (hb.mono hv0.size); obtain ⟨z1_1, z1_2, z1_3, z1_4, z1_5, z1_6, z1_7, z1_9, z1_10, z1_11, z1_12, z1_13, z1_14, z1_15⟩ := HX.out _ rfl w1 hv1; have HB1 := Lib.hid (HB0.out.trans (hb.mono HB0.out.size)); clear hb)
                  | (go_at_call 78; (with_reducible refine (N2.out _ HB1.out).mono ?_); rintro e w2 ⟨rfl, hb⟩; have hv2 := hv1.trans (hb.mono hv1.size); obtain ⟨z2_1, z2_2, z2_3, z2_4, z2_5, z2_6, z2_7, z2_9, z2_10, z2_11, z2_12, z2_13, z2_14, z2_15⟩ := HX.out _ rfl w2 hv2; have HB2 := Lib.hid (HB1.out.trans (hb.mono HB1.out.size)); clear hb)
                  | (go_at_call 56; (with_reducible refine (N3.out _ HB2.out z2_1).mono ?_); rintro e w3 ⟨rfl, hb⟩; have hv3 := hv2.trans (hb.mono hv2.size); obtain ⟨z3_1, z3_2, z3_3, z3_4, z3_5, z3_6, z3_7, z3_9, z3_10, z3_11, z3_12, z3_13, z3_14, z3_15⟩ := HX.out _ rfl w3 hv3; have HB3 := Lib.hid (HB2.out.trans (hb.mono HB2.out.size)); clear hb)
                  | (go_at_call 82; (with_reducible refine (N4.out _ HB3.out).mono ?_); rintro e w4 ⟨rfl, hb⟩; have hv4 := hv3.trans (hb.mono hv3.size); obtain ⟨z4_1, z4_2, z4_3, z4_4, z4_5, z4_6, z4_7, z4_9, z4_10, z4_11, z4_12, z4_13, z4_14, z4_15⟩ := HX.out _ rfl w4 hv4; have HB4 := Lib.hid (HB3.out.trans (hb.mono HB3.out.size)); clear hb)
                  | (go_at_call 84; (with_reducible refine (N5.out _ HB4.out).mono ?_); rintro e w5 ⟨rfl, hb⟩; have hv5 := hv4.trans (hb.mono hv4.size); obtain ⟨z5_1, z5_2, z5_3, z5_4, z5_5, z5_6, z5_7, z5_9, z5_10, z5_11, z5_12, z5_13, z5_14, z5_15⟩ := HX.out _ rfl w5 hv5; have HB5 := Lib.hid (HB4.out.trans (hb.mono HB4.out.size)); clear hb)
                  | (go_at_call 86; (with_reducible refine (N6.out _ HB5.out).mono ?_); rintro e w6 ⟨rfl, hb⟩; have hv6 := hv5.trans (hb.mono hv5.size); obtain ⟨z6_1, z6_2, z6_3, z6_4, z6_5, z6_6, z6_7, z6_9, z6_10, z6_11, z6_12, z6_13, z6_14, z6_15⟩ := HX.out _ rfl w6 hv6; have HB6 := Lib.hid (HB5.out.trans (hb.mono HB5.out.size)); clear hb))
                go_ret
                exact ⟨by simp, HB6.out⟩
              | true =>
                cases q7 with
                | false =>
                  go_enter Tryz.func39, Tryz.ntmps39
                  go_wp2_with (first
                    | (go_at_call 75; (with_reducible refine (N0.out _ HA.out).mono ?_); rintro e w0 ⟨rfl, hb⟩; have hv0 := hb; obtain ⟨z0_1, z0_2, z0_3, z0_4, z0_5, z0_6, z0_7, z0_9, z0_10, z0_11, z0_12, z0_13, z0_14, z0_15⟩ := HX.out _ rfl w0 hv0; have HB0 := Lib.hid (HA.out.trans (hb.mono HA.out.size)); clear hb)
                    | (go_at_call 77; (with_reducible refine (N1.out _ HB0.out z0_1).mono ?_); rintro e w1 ⟨rfl, hb⟩; have hv1 := hv0.trans (hb.mono hv0.size); obtain ⟨z1_1, z1_2, z1_3, z1_4, z1_5, z1_6, z1_7, z1_9, z1_10, z1_11, z1_12, z1_13, z1_14, z1_15⟩ := HX.out _ rfl w1 hv1; have HB1 := Lib.hid (HB0.out.trans (hb.mono HB0.out.size)); clear hb)
                    | (go_at_call 78; (with_reducible refine (N2.out _ HB1.out).mono ?_); rintro e w2 ⟨rfl, hb⟩; have hv2 := hv1.trans (hb.mono hv1.size); obtain ⟨z2_1, z2_2, z2_3, z2_4, z2_5, z2_6, z2_7, z2_9, z2_10, z2_11, z2_12, z2_13, z2_14, z2_15⟩ := HX.out _ rfl w2 hv2; have HB2 := Lib.hid (HB1.out.trans (hb.mono HB1.out.size)); clear hb)
                    | (go_at_call 56; (with_reducible refine (N3.out _ HB2.out z2_1).mono ?_); rintro e w3 ⟨rfl, hb⟩; have hv3 := hv2.trans (hb.mono hv2.size); obtain ⟨z3_1, z3_2, z3_3, z3_4, z3_5, z3_6, z3_7, z3_9, z3_10, z3_11, z3_12, z3_13, z3_14, z3_15⟩ := HX.out _ rfl w3 hv3; have HB3 := Lib.hid (HB2.out.trans (hb.mono HB2.out.size)); clear hb)
                    | (go_at_call 82; (with_reducible refine (N4.out _ HB3.out).mono ?_); rintro e w4 ⟨rfl, hb⟩; have hv4 := hv3.trans (hb.mono hv3.size); obtain ⟨z4_1, z4_2, z4_3, z4_4, z4_5, z4_6, z4_7, z4_9, z4_10, z4_11, z4_12, z4_13, z4_14, z4_15⟩ := HX.out _ rfl w4 hv4; have HB4 := Lib.hid (HB3.out.trans (hb.mono HB3.out.size)); clear hb)
                    | (go_at_call 84; (with_reducible refine (N5.out _ HB4.out).mono ?_); rintro e w5 ⟨rfl, hb⟩; have hv5 := hv4.trans (hb.mono hv4.size); obtain ⟨z5_1, z5_2, z5_3, z5_4, z5_5, z5_6, z5_7, z5_9, z5_10, z5_11, z5_12, z5_13, z5_14, z5_15⟩ := HX.out _ rfl w5 hv5; have HB5 := Lib.hid (HB4.out.trans (hb.mono HB4.out.size)); clear hb)
                    | (go_at_call 86; (with_reducible refine (N6.out _ HB5.out).mono ?_); rintro e w6 ⟨rfl, hb⟩; have hv6 := hv5.trans (hb.mono hv5.size); obtain ⟨z6_1, z6_2, z6_3, z6_4, z6_5, z6_6, z6_7, z6_9, z6_10, z6_11, z6_12, z6_13, z6_14, z6_15⟩ := HX.out _ rfl w6 hv6; have HB6 := Lib.hid (HB5.out.trans (hb.mono HB5.out.size)); clear hb)
                    | (go_at_call 88; (with_reducible refine (N7.out _ HB6.out z6_3 z6_6).mono ?_); rintro e w7 ⟨rfl, hb⟩; have hv7 := hv6.trans (hb.mono hv6.size); obtain ⟨z7_1, z7_2, z7_3, z7_4, z7_5, z7_6, z7_7, z7_9, z7_10, z7_11, z7_12, z7_13, z7_14, z7_15⟩ := HX.out _ rfl w7 hv7; have HB7 := Lib.hid (HB6.out.trans (hb.mono HB6.out.size)); clear hb))
                  go_ret
                  exact ⟨by simp, HB7.out⟩
                | true =>
                  cases q8 with
                  | false =>
                    go_enter Tryz.func39, Tryz.ntmps39
                    go_wp2_with (first
                      | (go_at_call 75; (with_reducible refine (N0.out _ HA.out).mono ?_); rintro e w0 ⟨rfl, hb⟩; have hv0 := hb; obtain ⟨z0_1, z0_2, z0_3, z0_4, z0_5, z0_6, z0_7, z0_9, z0_10, z0_11, z0_12, z0_13, z0_14, z0_15⟩ := HX.out _ rfl w0 hv0; have HB0 := Lib.hid (HA.out.trans (hb.mono HA.out.size)); clear hb)
                      | (go_at_call 77; (with_reducible refine (N1.out _ HB0.out z0_1).mono ?_); rintro e w1 ⟨rfl, hb⟩; have hv1 := hv0.trans (hb.mono hv0.size); obtain ⟨z1_1, z1_2, z1_3, z1_4, z1_5, z1_6, z1_7, z1_9, z1_10, z1_11, z1_12, z1_13, z1_14, z1_15⟩ := HX.out _ rfl w1 hv1; have HB1 := Lib.hid (HB0.out.trans (hb.mono HB0.out.size)); clear hb)
                      | (go_at_call 78; (with_reducible refine (N2.out _ HB1.out).mono ?_); rintro e w2 ⟨rfl, hb⟩; have hv2 := hv1.trans (hb.mono hv1.size); obtain ⟨z2_1, z2_2, z2_3, z2_4, z2_5, z2_6, z2_7, z2_9, z2_10, z2_11, z2_12, z2_13, z2_14, z2_15⟩ := HX.out _ rfl w2 hv2; have HB2 := Lib.hid (HB1.out.trans (hb.mono HB1.out.size)); clear hb)
                      | (go_at_call 56; (with_reducible refine (N3.out _ HB2.out z2_1).mono ?_); rintro e w3 ⟨rfl, hb⟩; have hv3 := hv2.trans (hb.mono hv2.size); obtain ⟨z3_1, z3_2, z3_3, z3_4, z3_5, z3_6, z3_7, z3_9, z3_10, z3_11, z3_12, z3_13, z3_14, z3_15⟩ := HX.out _ rfl w3 hv3; have HB3 := Lib.hid (HB2.out.trans (hb.mono HB2.out.size)); clear hb)
                      | (go_at_call 82; (with_reducible refine (N4.out _ HB3.out).mono ?_); rintro e w4 ⟨rfl, hb⟩; have hv4 := hv3.trans (hb.mono hv3.size); obtain ⟨z4_1, z4_2, z4_3, z4_4, z4_5, z4_6, z4_7, z4_9, z4_10, z4_11, z4_12, z4_13, z4_14, z4_15⟩ := HX.out _ rfl w4 hv4; have HB4 := Lib.hid (HB3.out.trans (hb.mono HB3.out.size)); clear hb)
                      | (go_at_call 84; (with_reducible refine (N5.out _ HB4.out).mono ?_); rintro e w5 ⟨rfl, hb⟩; have hv5 := hv4.trans (hb.mono hv4.size); obtain ⟨z5_1, z5_2, z5_3, z5_4, z5_5, z5_6, z5_7, z5_9, z5_10, z5_11, z5_12, z5_13, z5_14, z5_15⟩ := HX.out _ rfl w5 hv5; have HB5 := Lib.hid (HB4.out.trans (hb.mono HB4.out.size)); clear hb)
                      | (go_at_call 86; (with_reducible refine (N6.out _ HB5.out).mono ?_); rintro e w6 ⟨rfl, hb⟩; have hv6 := hv5.trans (hb.mono hv5.size); obtain ⟨z6_1, z6_2, z6_3, z6_4, z6_5, z6_6, z6_7, z6_9, z6_10, z6_11, z6_12, z6_13, z6_14, z6_15⟩ := HX.out _ rfl w6 hv6; have HB6 := Lib.hid (HB5.out.trans (hb.mono HB5.out.size)); clear hb)
                      | (go_at_call 88; (with_reducible refine (N7.out _ HB6.out z6_3 z6_6).mono ?_); rintro e w7 ⟨rfl, hb⟩; have hv7 := hv6.trans (hb.mono hv6.size); obtain ⟨z7_1, z7_2, z7_3, z7_4, z7_5, z7_6, z7_7, z7_9, z7_10, z7_11, z7_12, z7_13, z7_14, z7_15⟩ := HX.out _ rfl w7 hv7; have HB7 := Lib.hid (HB6.out.trans (hb.mono HB6.out.size)); clear hb)
                      | (go_at_call 89; (with_reducible refine (N8.out _ HB7.out).mono ?_); rintro e w8 ⟨rfl, hb⟩; have hv8 := hv7.trans (hb.mono hv7.size); obtain ⟨z8_1, z8_2, z8_3, z8_4, z8_5, z8_6, z8_7, z8_9, z8_10, z8_11, z8_12, z8_13, z8_14, z8_15⟩ := HX.out _ rfl w8 hv8; have HB8 := Lib.hid (HB7.out.trans (hb.mono HB7.out.size)); clear hb))
                    go_ret
                    exact ⟨by simp, HB8.out⟩
                  | true =>
                    cases q9 with
                    | false =>
                      go_enter Tryz.func39, Tryz.ntmps39
                      go_wp2_with (first
                        | (go_at_call 75; (with_reducible refine (N0.out _ HA.out).mono ?_); rintro e w0 ⟨rfl, hb⟩; have hv0 := hb; obtain ⟨z0_1, z0_2, z0_3, z0_4, z0_5, z0_6, z0_7, z0_9, z0_10, z0_11, z0_12, z0_13, z0_14, z0_15⟩ := HX.out _ rfl w0 hv0; have HB0 := Lib.hid (HA.out.trans (hb.mono HA.out.size)); clear hb)
                        | (go_at_call 77; (with_reducible refine (N1.out _ HB0.out z0_1).mono ?_); rintro e w1 ⟨rfl, hb⟩; have hv1 := hv0.trans (hb.mono hv0.size); obtain ⟨z1_1, z1_2, z1_3, z1_4, z1_5, z1_6, z1_7, z1_9, z1_10, z1_11, z1_12, z1_13, z1_14, z1_15⟩ := HX.out _ rfl w1 hv1; have HB1 := Lib.hid (HB0.out.trans (hb.mono HB0.out.size)); clear hb)
                        | (go_at_call 78; (with_reducible refine (N2.out _ HB1.out).mono ?_); rintro e w2 ⟨rfl, hb⟩; have hv2 := hv1.trans (hb.mono hv1.size); obtain ⟨z2_1, z2_2, z2_3, z2_4, z2_5, z2_6, z2_7, z2_9, z2_10, z2_11, z2_12, z2_13, z2_14, z2_15⟩ := HX.out _ rfl w2 hv2; have HB2 := Lib.hid (HB1.out.trans (hb.mono HB1.out.size)); clear hb)
                        | (go_at_call 56; (with_reducible refine (N3.out _ HB2.out z2_1).mono ?_); rintro e w3 ⟨rfl, hb⟩; have hv3 := hv2.trans (hb.mono hv2.size); obtain ⟨z3_1, z3_2, z3_3, z3_4, z3_5, z3_6, z3_7, z3_9, z3_10, z3_11, z3_12, z3_13, z3_14, z3_15⟩ := HX.out _ rfl w3 hv3; have HB3 := Lib.hid (HB2.out.trans (hb.mono HB2.out.size)); clear hb)
                        | (go_at_call 82; (with_reducible refine (N4.out _ HB3.out).mono ?_); rintro e w4 ⟨rfl, hb⟩; have hv4 := hv3.trans (hb.mono hv3.size); obtain ⟨z4_1, z4_2, z4_3, z4_4, z4_5, z4_6, z4_7, z4_9, z4_10, z4_11, z4_12, z4_13, z4_14, z4_15⟩ := HX.out _ rfl w4 hv4; have HB4 := Lib.hid (HB3.out.trans (hb.mono HB3.out.size)); clear hb)
                        | (go_at_call 84; (with_reducible refine (N5.out _ HB4.out).mono ?_); rintro e w5 ⟨rfl, hb⟩; have hv5 := hv4.trans (hb.mono hv4.size); obtain ⟨z5_1, z5_2, z5_3, z5_4, z5_5, z5_6, z5_7, z5_9, z5_10, z5_11, z5_12, z5_13, z5_14, z5_15⟩ := HX.out _ rfl w5 hv5; have HB5 := Lib.hid (HB4.out.trans (hb.mono HB4.out.size)); clear hb)
                        | (go_at_call 86; (with_reducible refine (N6.out _ HB5.out).mono ?_); rintro e w6 ⟨rfl, hb⟩; have hv6 := hv5.trans (hb.mono hv5.size); obtain ⟨z6_1, z6_2, z6_3, z6_4, z6_5, z6_6, z6_7, z6_9, z6_10, z6_11, z6_12, z6_13, z6_14, z6_15⟩ := HX.out _ rfl w6 hv6; have HB6 := Lib.hid (HB5.out.trans (hb.mono HB5.out.size)); clear hb)
                        | (go_at_call 88; (with_reducible refine (N7.out _ HB6.out z6_3 z6_6).mono ?_); rintro e w7 ⟨rfl, hb⟩; have hv7 := hv6.trans (hb.mono hv6.size); obtain ⟨z7_1, z7_2, z7_3, z7_4, z7_5, z7_6, z7_7, z7_9, z7_10, z7_11, z7_12, z7_13, z7_14, z7_15⟩ := HX.out _ rfl w7 hv7; have HB7 := Lib.hid (HB6.out.trans (hb.mono HB6.out.size)); clear hb)
                        | (go_at_call 89; (with_reducible refine (N8.out _ HB7.out).mono ?_); rintro e w8 ⟨rfl, hb⟩; have hv8 := hv7.trans (hb.mono hv7.size); obtain ⟨z8_1, z8_2, z8_3, z8_4, z8_5, z8_6, z8_7, z8_9, z8_10, z8_11, z8_12, z8_13, z8_14, z8_15⟩ := HX.out _ rfl w8 hv8; have HB8 := Lib.hid (HB7.out.trans (hb.mono HB7.out.size)); clear hb)
                        | (go_at_call 91; (with_reducible refine (N9.out _ HB8.out).mono ?_); rintro e w9 ⟨rfl, hb⟩; have hv9 := hv8.trans (hb.mono hv8.size); obtain ⟨z9_1, z9_2, z9_3, z9_4, z9_5, z9_6, z9_7, z9_9, z9_10, z9_11, z9_12, z9_13, z9_14, z9_15⟩ := HX.out _ rfl w9 hv9; have HB9 := Lib.hid (HB8.out.trans (hb.mono HB8.out.size)); clear hb))
                      go_ret
                      exact ⟨by simp, HB9.out⟩
                    | true =>
                      cases q10 with
                      | false =>
                        go_enter Tryz.func39, Tryz.ntmps39
                        go_wp2_with (first
                          | (go_at_call 75; (with_reducible refine (N0.out _ HA.out).mono ?_); rintro e w0 ⟨rfl, hb⟩; have hv0 := hb; obtain ⟨z0_1, z0_2, z0_3, z0_4, z0_5, z0_6, z0_7, z0_9, z0_10, z0_11, z0_12, z0_13, z0_14, z0_15⟩ := HX.out _ rfl w0 hv0; have HB0 := Lib.hid (HA.out.trans (hb.mono HA.out.size)); clear hb)
                          | (go_at_call 77; (with_reducible refine (N1.out _ HB0.out z0_1).mono ?_); rintro e w1 ⟨rfl, hb⟩; have hv1 := hv0.trans (hb.mono hv0.size); obtain ⟨z1_1, z1_2, z1_3, z1_4, z1_5, z1_6, z1_7, z1_9, z1_10, z1_11, z1_12, z1_13, z1_14, z1_15⟩ := HX.out _ rfl w1 hv1; have HB1 := Lib.hid (HB0.out.trans (hb.mono HB0.out.size)); clear hb)
                          | (go_at_call 78; (with_reducible refine (N2.out _ HB1.out).mono ?_); rintro e w2 ⟨rfl, hb⟩; have hv2 := hv1.trans (hb.mono hv1.size); obtain ⟨z2_1, z2_2, z2_3, z2_4, z2_5, z2_6, z2_7, z2_9, z2_10, z2_11, z2_12, z2_13, z2_14, z2_15⟩ := HX.out _ rfl w2 hv2; have HB2 := Lib.hid (HB1.out.trans (hb.mono HB1.out.size)); clear hb)
                          | (go_at_call 56; (with_reducible refine (N3.out _ HB2.out z2_1).mono ?_); rintro e w3 ⟨rfl, hb⟩; have hv3 := hv2.trans (hb.mono hv2.size); obtain ⟨z3_1, z3_2, z3_3, z3_4, z3_5, z3_6, z3_7, z3_9, z3_10, z3_11, z3_12, z3_13, z3_14, z3_15⟩ := HX.out _ rfl w3 hv3; have HB3 := Lib.hid (HB2.out.trans (hb.mono HB2.out.size)); clear hb)
                          | (go_at_call 82; (with_reducible refine (N4.out _ HB3.out).mono ?_); rintro e w4 ⟨rfl, hb⟩; have hv4 := hv3.trans (hb.mono hv3.size); obtain ⟨z4_1, z4_2, z4_3, z4_4, z4_5, z4_6, z4_7, z4_9, z4_10, z4_11, z4_12, z4_13, z4_14, z4_15⟩ := HX.out _ rfl w4 hv4; have HB4 := Lib.hid (HB3.out.trans (hb.mono HB3.out.size)); clear hb)
                          | (go_at_call 84; (with_reducible refine (N5.out _ HB4.out).mono ?_); rintro e w5 ⟨rfl, hb⟩; have hv5 := hv4.trans (hb.mono hv4.size); obtain ⟨z5_1, z5_2, z5_3, z5_4, z5_5, z5_6, z5_7, z5_9, z5_10, z5_11, z5_12, z5_13, z5_14, z5_15⟩ := HX.out _ rfl w5 hv5; have HB5 := Lib.hid (HB4.out.trans (hb.mono HB4.out.size)); clear hb)
                          | (go_at_call 86; (with_reducible refine (N6.out _ HB5.out).mono ?_); rintro e w6 ⟨rfl, hb⟩; have hv6 := hv5.trans (hb.mono hv5.size); obtain ⟨z6_1, z6_2, z6_3, z6_4, z6_5, z6_6, z6_7, z6_9, z6_10, z6_11, z6_12, z6_13, z6_14, z6_15⟩ := HX.out _ rfl w6 hv6; have HB6 := Lib.hid (HB5.out.trans (hb.mono HB5.out.size)); clear hb)
                          | (go_at_call 88; (with_reducible refine (N7.out _ HB6.out z6_3 z6_6).mono ?_); rintro e w7 ⟨rfl, hb⟩; have hv7 := hv6.trans (hb.mono hv6.size); obtain ⟨z7_1, z7_2, z7_3, z7_4, z7_5, z7_6, z7_7, z7_9, z7_10, z7_11, z7_12, z7_13, z7_14, z7_15⟩ := HX.out _ rfl w7 hv7; have HB7 := Lib.hid (HB6.out.trans (hb.mono HB6.out.size)); clear hb)
                          | (go_at_call 89; (with_reducible refine (N8.out _ HB7.out).mono ?_); rintro e w8 ⟨rfl, hb⟩; have hv8 := hv7.trans (hb.mono hv7.size); obtain ⟨z8_1, z8_2, z8_3, z8_4, z8_5, z8_6, z8_7, z8_9, z8_10, z8_11, z8_12, z8_13, z8_14, z8_15⟩ := HX.out _ rfl w8 hv8; have HB8 := Lib.hid (HB7.out.trans (hb.mono HB7.out.size)); clear hb)
                          | (go_at_call 91; (with_reducible refine (N9.out _ HB8.out).mono ?_); rintro e w9 ⟨rfl, hb⟩; have hv9 := hv8.trans (hb.mono hv8.size); obtain ⟨z9_1, z9_2, z9_3, z9_4, z9_5, z9_6, z9_7, z9_9, z9_10, z9_11, z9_12, z9_13, z9_14, z9_15⟩ := HX.out _ rfl w9 hv9; have HB9 := Lib.hid (HB8.out.trans (hb.mono HB8.out.size)); clear hb)
                          | (go_at_call 51; (with_reducible refine (N10.out _ _ rfl).mono ?_); rintro e w10 ⟨rfl, hb⟩; have hv10 := hv9.trans (hb.mono hv9.size); obtain ⟨z10_1, z10_2, z10_3, z10_4, z10_5, z10_6, z10_7, z10_9, z10_10, z10_11, z10_12, z10_13, z10_14, z10_15⟩ := HX.out _ rfl w10 hv10; have HB10 := Lib.hid (HB9.out.trans (hb.mono HB9.out.size)); clear hb))
                        go_ret
                        exact ⟨by simp, HB10.out⟩
                      | true =>
                        go_enter Tryz.func39, Tryz.ntmps39
                        go_wp2_with (first
                          | (go_at_call 75; (with_reducible refine (N0.out _ HA.out).mono ?_); rintro e w0 ⟨rfl, hb⟩; have hv0 := hb; obtain ⟨z0_1, z0_2, z0_3, z0_4, z0_5, z0_6, z0_7, z0_9, z0_10, z0_11, z0_12, z0_13, z0_14, z0_15⟩ := HX.out _ rfl w0 hv0; have HB0 := Lib.hid (HA.out.trans (hb.mono HA.out.size)); clear hb)
                          | (go_at_call 77; (with_reducible refine (N1.out _ HB0.out z0_1).mono ?_); rintro e w1 ⟨rfl, hb⟩; have hv1 := hv0.trans (hb.mono hv0.size); obtain ⟨z1_1, z1_2, z1_3, z1_4, z1_5, z1_6, z1_7, z1_9, z1_10, z1_11, z1_12, z1_13, z1_14, z1_15⟩ := HX.out _ rfl w1 hv1; have HB1 := Lib.hid (HB0.out.trans (hb.mono HB0.out.size)); clear hb)
                          | (go_at_call 78; (with_reducible refine (N2.out _ HB1.out).mono ?_); rintro e w2 ⟨rfl, hb⟩; have hv2 := hv1.trans (hb.mono hv1.size); obtain ⟨z2_1, z2_2, z2_3, z2_4, z2_5, z2_6, z2_7, z2_9, z2_10, z2_11, z2_12, z2_13, z2_14, z2_15⟩ := HX.out _ rfl w2 hv2; have HB2 := Lib.hid (HB1.out.trans (hb.mono HB1.out.size)); clear hb)
                          | (go_at_call 56; (with_reducible refine (N3.out _ HB2.out z2_1).mono ?_); rintro e w3 ⟨rfl, hb⟩; have hv3 := hv2.trans (hb.mono hv2.size); obtain ⟨z3_1, z3_2, z3_3, z3_4, z3_5, z3_6, z3_7, z3_9, z3_10, z3_11, z3_12, z3_13, z3_14, z3_15⟩ := HX.out _ rfl w3 hv3; have HB3 := Lib.hid (HB2.out.trans (hb.mono HB2.out.size)); clear hb)
                          | (go_at_call 82; (with_reducible refine (N4.out _ HB3.out).mono ?_); rintro e w4 ⟨rfl, hb⟩; have hv4 := hv3.trans (hb.mono hv3.size); obtain ⟨z4_1, z4_2, z4_3, z4_4, z4_5, z4_6, z4_7, z4_9, z4_10, z4_11, z4_12, z4_13, z4_14, z4_15⟩ := HX.out _ rfl w4 hv4; have HB4 := Lib.hid (HB3.out.trans (hb.mono HB3.out.size)); clear hb)
                          | (go_at_call 84; (with_reducible refine (N5.out _ HB4.out).mono ?_); rintro e w5 ⟨rfl, hb⟩; have hv5 := hv4.trans (hb.mono hv4.size); obtain ⟨z5_1, z5_2, z5_3, z5_4, z5_5, z5_6, z5_7, z5_9, z5_10, z5_11, z5_12, z5_13, z5_14, z5_15⟩ := HX.out _ rfl w5 hv5; have HB5 := Lib.hid (HB4.out.trans (hb.mono HB4.out.size)); clear hb)
                          | (go_at_call 86; (with_reducible refine (N6.out _ HB5.out).mono ?_); rintro e w6 ⟨rfl, hb⟩; have hv6 := hv5.trans (hb.mono hv5.size); obtain ⟨z6_1, z6_2, z6_3, z6_4, z6_5, z6_6, z6_7, z6_9, z6_10, z6_11, z6_12, z6_13, z6_14, z6_15⟩ := HX.out _ rfl w6 hv6; have HB6 := Lib.hid (HB5.out.trans (hb.mono HB5.out.size)); clear hb)
                          | (go_at_call 88; (with_reducible refine (N7.out _ HB6.out z6_3 z6_6).mono ?_); rintro e w7 ⟨rfl, hb⟩; have hv7 := hv6.trans (hb.mono hv6.size); obtain ⟨z7_1, z7_2, z7_3, z7_4, z7_5, z7_6, z7_7, z7_9, z7_10, z7_11, z7_12, z7_13, z7_14, z7_15⟩ := HX.out _ rfl w7 hv7; have HB7 := Lib.hid (HB6.out.trans (hb.mono HB6.out.size)); clear hb)
                          | (go_at_call 89; (with_reducible refine (N8.out _ HB7.out).mono ?_); rintro e w8 ⟨rfl, hb⟩; have hv8 := hv7.trans (hb.mono hv7.size); obtain ⟨z8_1, z8_2, z8_3, z8_4, z8_5, z8_6, z8_7, z8_9, z8_10, z8_11, z8_12, z8_13, z8_14, z8_15⟩ := HX.out _ rfl w8 hv8; have HB8 := Lib.hid (HB7.out.trans (hb.mono HB7.out.size)); clear hb)
                          | (go_at_call 91; (with_reducible refine (N9.out _ HB8.out).mono ?_); rintro e w9 ⟨rfl, hb⟩; have hv9 := hv8.trans (hb.mono hv8.size); obtain ⟨z9_1, z9_2, z9_3, z9_4, z9_5, z9_6, z9_7, z9_9, z9_10, z9_11, z9_12, z9_13, z9_14, z9_15⟩ := HX.out _ rfl w9 hv9; have HB9 := Lib.hid (HB8.out.trans (hb.mono HB8.out.size)); clear hb)
                          | (go_at_call 51; (with_reducible refine (N10.out _ _ rfl).mono ?_); rintro e w10 ⟨rfl, hb⟩; have hv10 := hv9.trans (hb.mono hv9.size); obtain ⟨z10_1, z10_2, z10_3, z10_4, z10_5, z10_6, z10_7, z10_9, z10_10, z10_11, z10_12, z10_13, z10_14, z10_15⟩ := HX.out _ rfl w10 hv10; have HB10 := Lib.hid (HB9.out.trans (hb.mono HB9.out.size)); clear hb)
                          | (go_at_call 51; (with_reducible refine (N11.out _ _ rfl).mono ?_); rintro e w11 ⟨rfl, hb⟩; have hv11 := hv10.trans (hb.mono hv10.size); obtain ⟨z11_1, z11_2, z11_3, z11_4, z11_5, z11_6, z11_7, z11_9, z11_10, z11_11, z11_12, z11_13, z11_14, z11_15⟩ := HX.out _ rfl w11 hv11; have HB11 := Lib.hid (HB10.out.trans (hb.mono HB10.out.size)); clear hb))
                        go_ret
                        exact ⟨by simp, HB11.out⟩
end Go.Proofs.YtabdgnigmlpeaaaGreatDoor
/- The specification's ranges: its blocks. -/
namespace Go.Proofs.YtabdgnigmlpeaaaGreatDoor
open Go.RowKit

/-- The block of that number in a function's code. -/
def findB (n : Nat) : Code → Option Code
  | .block k c => if k = n then some (.block k c) else findB n c
  | .seq c e => match findB n c with
    | some r => some r
    | none => findB n e
  | .cond _ c e => match findB n c with
    | some r => some r
    | none => findB n e
  | .loop c => findB n c
  | .scope c => findB n c
  | _ => none
theorem catR_iff (x : CatD) : catR x = decide (0 ≤ x.f ∧ x.f ≤ x.t ∧ x.t ≤ 120) := by
  unfold catR
  simp only [ascI]
  by_cases h1 : 0 ≤ x.f <;> by_cases h2 : x.f ≤ x.t <;> by_cases h3 : x.t ≤ 120 <;> simp [h1, h2, h3]
/-- All are as asked for, no key stands twice. -/
def okL {α κ : Type} [DecidableEq κ] (P : α → Bool) (key : α → κ) (l : List α) : Bool := l.all P && decide (l.map key).Nodup
theorem okL_one {α κ : Type} [DecidableEq κ] {P : α → Bool} {key : α → κ} {l : List α} {i : Nat} (hi : i < l.length) (h : okL P key (l.take i) = true) (hn : P l[i] = true) (hd : ∀ k (hk : k < i), key (l[k]'(by omega)) ≠ key l[i]) : okL P key (l.take (i + 1)) = true := by
  unfold okL at h ⊢
  rw [Bool.and_eq_true, decide_eq_true_eq] at h ⊢
  rw [List.take_succ_eq_append_getElem hi, List.all_append, h.1, List.map_append, List.nodup_append]
  refine ⟨by simp [hn], h.2, by simp, fun a ha b hb => ?_⟩
  rw [List.map_cons, List.map_nil, List.mem_singleton] at hb
  subst hb
  obtain ⟨z, hz, rfl⟩ := List.mem_map.1 ha
  obtain ⟨k, hk, rfl⟩ := List.getElem_of_mem hz
  rw [List.length_take] at hk
  rw [List.getElem_take]
  exact hd k (by omega)
theorem okL_bad {α κ : Type} [DecidableEq κ] {P : α → Bool} {key : α → κ} {l : List α} {i : Nat} (hi : i < l.length) (hn : P l[i] = false) : okL P key l = false := by
  cases hq : okL P key l with
  | false => rfl
  | true =>
    unfold okL at hq
    rw [Bool.and_eq_true] at hq
    have := List.all_eq_true.1 hq.1 l[i] (List.getElem_mem hi)
    rw [hn] at this; cases this
theorem okL_twice {α κ : Type} [DecidableEq κ] {P : α → Bool} {key : α → κ} {l : List α} {i k : Nat} (hi : i < l.length) (hk : k < i) (he : key (l[k]'(by omega)) = key l[i]) : okL P key l = false := by
  cases hq : okL P key l with
  | false => rfl
  | true =>
    unfold okL at hq
    rw [Bool.and_eq_true, decide_eq_true_eq] at hq
    have := List.pairwise_iff_getElem.1 hq.2 k i (by rw [List.length_map]; omega) (by rw [List.length_map]; exact hi) hk
    rw [List.getElem_map, List.getElem_map] at this
    exact absurd he this
theorem held21h {P0 P1 P2 P3 P4 P5 P6 P7 P8 P9 P10 P11 P12 P13 P14 P15 P16 P17 P18 P19 P20 P21 : Prop} (h : P0 ∧ P1 ∧ P2 ∧ P3 ∧ P4 ∧ P5 ∧ P6 ∧ P7 ∧ P8 ∧ P9 ∧ P10 ∧ P11 ∧ P12 ∧ P13 ∧ P14 ∧ P15 ∧ P16 ∧ P17 ∧ P18 ∧ P19 ∧ P20 ∧ Hid P21) : P21 := h.2.2.2.2.2.2.2.2.2.2.2.2.2.2.2.2.2.2.2.2.2.out
theorem legR_iff (m : Nat) (x : LegD) : legR m x = (inI 0 ((m : Int) - 1) x.f && (inI 0 ((m : Int) - 1) x.t && decide (0 ≤ x.mi ∧ x.mi ≤ x.ma ∧ x.ma ≤ 68719476736))) := by
  unfold legR
  simp only [ascI]
  by_cases h1 : 0 ≤ x.mi <;> by_cases h2 : x.mi ≤ x.ma <;> by_cases h3 : x.ma ≤ 68719476736 <;> simp [h1, h2, h3]
theorem inI_m1 (n : Nat) (x : Int) : inI (-1) ((n : Int) - 1) x = (x == -1 || inI 0 ((n : Int) - 1) x) := by
  unfold inI
  by_cases h : x = -1
  · subst h
    have h1 : (-1 : Int) ≤ (n : Int) - 1 := by omega
    simp [h1]
  · by_cases h1 : 0 ≤ x
    · have h2 : -1 ≤ x := by omega
      simp [h, h1, h2]
    · have h2 : ¬ -1 ≤ x := by omega
      simp [h, h1, h2]
noncomputable def rgB (n : Nat) : Code := (Tryz.f43.body.bind (findB n)).getD .skip
end Go.Proofs.YtabdgnigmlpeaaaGreatDoor
/- The specification's route: mathematics; its blocks. -/
namespace Go.Proofs.YtabdgnigmlpeaaaGreatDoor
open Go.RowKit

theorem fitK_iff (mats : List MatD) (last : Int) : ∀ (l : List Int) (j : Nat), fitK mats last j l = true ↔ ∀ i (h : i < l.length), kindM mats l[i] = kindP ((j + i : Nat) : Int) last
  | [], j => by rw [fitK]; simp
  | r :: l, j => by
    rw [fitK, Bool.and_eq_true, beq_iff_eq, fitK_iff mats last l (j + 1)]
    constructor
    · rintro ⟨h1, h2⟩ i hi
      cases i with
      | zero => exact h1
      | succ i => have := h2 i (by simpa using hi); rw [show j + (i + 1) = j + 1 + i by omega]; exact this
    · intro h
      refine ⟨h 0 (by simp), fun i hi => ?_⟩
      have := h (i + 1) (by simpa using hi)
      rw [show j + 1 + i = j + (i + 1) by omega]
      exact this
theorem connE_iff (N : List (Int × Int)) : ∀ l : List Int, connE N l = true ↔ ∀ i (h : i + 1 < l.length), N.count (l[i], l[i + 1]) ≠ 0
  | [] => by rw [connE]; simp; intro a b r h; cases h
  | [a] => by rw [connE_one N rfl]; simp
  | a :: b :: r => by
    rw [connE, Bool.and_eq_true, connE_iff N (b :: r)]
    constructor
    · rintro ⟨h1, h2⟩ i hi
      cases i with
      | zero => simpa using h1
      | succ i => exact h2 i (by simpa using hi)
    · intro h
      refine ⟨by simpa using h 0 (by simp), fun i hi => ?_⟩
      exact h (i + 1) (by simpa using hi)
/-- The kinds of a route's mats and its legs. -/
def rtOk (mats : List MatD) (N : List (Int × Int)) (R : List Int) : Bool := fitK mats ((R.length : Int) - 1) 0 R && connE N R
theorem rtOk_yes {mats : List MatD} {N : List (Int × Int)} {R : List Int} (h : ∀ z, z < R.length → ∃ h : z < R.length, kindM mats R[z] = kindP (z : Int) ((R.length : Int) - 1) ∧ (∀ y (hy : y + 1 = z), N.count (R[y]'(by omega), R[z]) ≠ 0)) : rtOk mats N R = true := by
  unfold rtOk
  rw [Bool.and_eq_true, fitK_iff, connE_iff]
  refine ⟨fun i hi => ?_, fun i hi => ?_⟩
  · obtain ⟨_, h1, _⟩ := h i hi
    rw [Nat.zero_add]; exact h1
  · obtain ⟨_, _, h2⟩ := h (i + 1) hi
    exact h2 i rfl
theorem rtOk_kind {mats : List MatD} {N : List (Int × Int)} {R : List Int} {j : Nat} (hj : j < R.length) (h : kindM mats R[j] ≠ kindP (j : Int) ((R.length : Int) - 1)) : rtOk mats N R = false := by
  cases hq : rtOk mats N R with
  | false => rfl
  | true =>
    unfold rtOk at hq
    rw [Bool.and_eq_true, fitK_iff] at hq
    have := hq.1 j hj
    rw [Nat.zero_add] at this
    exact absurd this h
theorem rtOk_leg {mats : List MatD} {N : List (Int × Int)} {R : List Int} {j : Nat} (hj : j + 1 < R.length) (h : N.count (R[j], R[j + 1]) = 0) : rtOk mats N R = false := by
  cases hq : rtOk mats N R with
  | false => rfl
  | true =>
    unfold rtOk at hq
    rw [Bool.and_eq_true, connE_iff] at hq
    exact absurd h (hq.2 j hj)
theorem held19h {P0 P1 P2 P3 P4 P5 P6 P7 P8 P9 P10 P11 P12 P13 P14 P15 P16 P17 P18 P19 : Prop} (h : P0 ∧ P1 ∧ P2 ∧ P3 ∧ P4 ∧ P5 ∧ P6 ∧ P7 ∧ P8 ∧ P9 ∧ P10 ∧ P11 ∧ P12 ∧ P13 ∧ P14 ∧ P15 ∧ P16 ∧ P17 ∧ P18 ∧ Hid P19) : P19 := h.2.2.2.2.2.2.2.2.2.2.2.2.2.2.2.2.2.2.2.out
theorem held3h {P0 P1 P2 P3 : Prop} (h : P0 ∧ P1 ∧ P2 ∧ Hid P3) : P3 := h.2.2.2.out
noncomputable def rtB (n : Nat) : Code := (Tryz.f44.body.bind (findB n)).getD .skip
end Go.Proofs.YtabdgnigmlpeaaaGreatDoor
