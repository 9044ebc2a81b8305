/- TypingCourseSpec: the law returns true for all arguments. -/
import Derived.Test.YtabdgnigmlpeaaaGreatDoorTXT
import Derived.Test.YtabdgnigmlpeaaaGreatDoorTRqM
import Derived.Test.YtabdgnigmlpeaaaGreatDoorTRxP
import Derived.Test.YtabdgnigmlpeaaaGreatDoorTXE
import Derived.Deep.RegionHeld3
import Derived.BigQuiet
import Derived.Test.YtabdgnigmlpeaaaGreatDoorTXF
import Derived.Test.YtabdgnigmlpeaaaGreatDoorTXA
import Derived.Test.YtabdgnigmlpeaaaGreatDoorTXL
import Derived.Test.YtabdgnigmlpeaaaGreatDoorRows
import Derived.Laws.IdiomStrings
import Derived.Test.YtabdgnigmlpeaaaGreatDoorTie
import Derived.Test.YtabdgnigmlpeaaaGreatDoorCards
import Derived.Deep.DeepHandedRow
import Derived.LaidMore
import Derived.LaidLaws
import Derived.Lay
import Derived.SevenTiedAt
import Derived.OpenShut
import Derived.ShutString
import Derived.Deep.Light
namespace Go.Proofs.YtabdgnigmlpeaaaGreatDoor
open Go.RowKit

noncomputable def rcB (n : Nat) : Code := (Tryz.f13.body.bind (findB n)).getD .skip
set_option maxHeartbeats 32000000 in
set_option maxRecDepth 100000 in
theorem rcA_any {Q : Exit → Act → World → Prop} {A : World} {B : Nat} (wr : World) {pp : DistD → Bool} {v0 v1 v2 v4 v5 v6 v7 v8 v9 v10 v11 v12 v13 v14 v15 : Value} {l : List (DistD × DLoc)} {p : Option Addr} {cap b off : Nat} (hl : l.length ≤ 1000)
    (ND : Hid (∀ j (h : j < l.length) W, Below A.heap.size A W → Calls Tryz.prog 44 #[.agg #[v0, v1, v2, .slice p l.length cap, v4, v5, v6, v7, v8, v9, v10, v11, v12, v13, v14, v15], distV l[j].1 l[j].2] W fun e w' => e = .returned (.bool (pp l[j].1)) ∧ Below W.heap.size W w'))
    (HC : Hid (∀ w', Below A.heap.size A w' → w'.cell? ⟨B, 0, none⟩ = some (v0) ∧ w'.cell? ⟨B, 1, none⟩ = some (v1) ∧ w'.cell? ⟨B, 2, none⟩ = some (v2) ∧ w'.cell? ⟨B, 3, none⟩ = some (.slice p l.length cap) ∧ w'.cell? ⟨B, 4, none⟩ = some (v4) ∧ w'.cell? ⟨B, 5, none⟩ = some (v5) ∧ w'.cell? ⟨B, 6, none⟩ = some (v6) ∧ w'.cell? ⟨B, 7, none⟩ = some (v7) ∧ w'.cell? ⟨B, 8, none⟩ = some (v8) ∧ w'.cell? ⟨B, 9, none⟩ = some (v9) ∧ w'.cell? ⟨B, 10, none⟩ = some (v10) ∧ w'.cell? ⟨B, 11, none⟩ = some (v11) ∧ w'.cell? ⟨B, 12, none⟩ = some (v12) ∧ w'.cell? ⟨B, 13, none⟩ = some (v13) ∧ w'.cell? ⟨B, 14, none⟩ = some (v14) ∧ w'.cell? ⟨B, 15, none⟩ = some (v15))) (HE : Hid (∀ w', Below A.heap.size A w' → ∀ j (h : j < l.length), p = some ⟨b, off, none⟩ ∧ w'.cell? ⟨b, off + j * 5, none⟩ = some (.string l[j].1.n) ∧ w'.cell? ⟨b, off + j * 5 + 1, none⟩ = some (.slice l[j].2.pr l[j].1.r.length l[j].2.cr) ∧ w'.cell? ⟨b, off + j * 5 + 2, none⟩ = some (.int .i64 l[j].1.t) ∧ w'.cell? ⟨b, off + j * 5 + 3, none⟩ = some (.slice l[j].2.pc l[j].1.cs.length l[j].2.cc) ∧ w'.cell? ⟨b, off + j * 5 + 4, none⟩ = some (.int .i64 l[j].1.x)))
    {u0 u3 u5 u6 u7 u8 u9 u10 u11 u12 u13 u14 u15 u16 u17 u18 u19 u2 y20 y21 y22 y23 y24 y25 y26 y27 y28 y29 y30 y31 y32 y33 y34 : Value}
    (hQ : ∀ (z2 z4 z20 z21 z22 z23 z24 z25 z26 z27 z28 z29 z30 z31 z32 z33 z34 : Value) (w' : World), l.all (fun z => pp z.1) = true → Hid (Below A.heap.size A w') → Q .normal ⟨#[u0, .pointer (some ⟨B, 0, none⟩), z2, u3, z4, u5, u6, u7, u8, u9, u10, u11, u12, u13, u14, u15, u16, u17, u18, u19, z20, z21, z22, z23, z24, z25, z26, z27, z28, z29, z30, z31, z32, z33, z34], []⟩ w')
    (hR : ∀ (z4 z20 z21 z22 z23 z24 z25 z26 z27 z28 z29 z30 z31 z32 z33 z34 : Value) (w' : World), l.all (fun z => pp z.1) = false → Hid (Below A.heap.size A w') → Q .ret ⟨#[u0, .pointer (some ⟨B, 0, none⟩), .int .i64 72, u3, z4, u5, u6, u7, u8, u9, u10, u11, u12, u13, u14, u15, u16, u17, u18, u19, z20, z21, z22, z23, z24, z25, z26, z27, z28, z29, z30, z31, z32, z33, z34], []⟩ w') (HB0 : Hid (Below A.heap.size A wr)) :
    Code.wp Tryz.prog (rcB 0) Q ⟨#[u0, .pointer (some ⟨B, 0, none⟩), u2, u3, .int .i64 0, u5, u6, u7, u8, u9, u10, u11, u12, u13, u14, u15, u16, u17, u18, u19, y20, y21, y22, y23, y24, y25, y26, y27, y28, y29, y30, y31, y32, y33, y34], []⟩ wr := by
  have HQ := Lib.hid hQ
  have HR := Lib.hid hR
  obtain ⟨T, hT⟩ : ∃ T, l.all (fun z => pp z.1) = T := ⟨_, rfl⟩
  rw [hT] at HQ HR
  have H0 : Hid ((l.drop 0).all (fun z => pp z.1) = T) := Lib.hid (by rw [List.drop_zero]; exact hT)
  clear hQ hR hT
  conv => arg 2; whnf
  dsimp only
  go_wp2_with fail
  go_loopw [4] (fun i wr => ∃ j : Nat, j ≤ l.length ∧ i = .int .i64 j ∧ Hid ((l.drop j).all (fun z => pp z.1) = T) ∧ Hid (Below A.heap.size A wr)) (fun i _ => l.length - (intOf i).toNat)
  case atStart => exact ⟨0, Nat.zero_le _, rfl, H0, HB0⟩
  case round =>
    obtain ⟨j, hj, rfl, HI, HB⟩ := hrel
    clear H0 HB0
    by_cases hlt : j < l.length
    · have hji : (j : Int) < (l.length : Int) := by omega
      have f16 := HC.out _ HB.out
      obtain ⟨rfl, a0, a1, a2, a3, a4⟩ := HE.out _ HB.out j hlt
      have hI := HI.out
      rw [(List.getElem_cons_drop hlt).symm, List.all_cons] at hI
      have ND0 : Hid (∀ W, Below wr.heap.size wr W → Calls Tryz.prog 44 #[.agg #[v0, v1, v2, .slice (some ⟨b, off, none⟩) l.length cap, v4, v5, v6, v7, v8, v9, v10, v11, v12, v13, v14, v15], distV l[j].1 l[j].2] W fun e w' => e = .returned (.bool (pp l[j].1)) ∧ Hid (Below wr.heap.size wr w')) := Lib.hid fun W hW => (ND.out j hlt W (HB.out.trans (hW.mono HB.out.size))).mono fun e w' h => ⟨h.1, Lib.hid (hW.trans (h.2.mono hW.size))⟩
      have HLW : Hid (∀ w', Below wr.heap.size wr w' → Below A.heap.size A w') := Lib.hid fun w' hb => HB.out.trans (hb.mono HB.out.size)
      obtain ⟨g0, g1, g2, g3, g4, g5, g6, g7, g8, g9, g10, g11, g12, g13, g14, g15⟩ := f16
      have HX : Hid (∀ w', Below wr.heap.size wr w' → w'.cell? ⟨B, 0, none⟩ = some (v0) ∧ w'.cell? ⟨B, 1, none⟩ = some (v1) ∧ w'.cell? ⟨B, 2, none⟩ = some (v2) ∧ w'.cell? ⟨B, 3, none⟩ = some (.slice (some ⟨b, off, none⟩) l.length cap) ∧ w'.cell? ⟨B, 4, none⟩ = some (v4) ∧ w'.cell? ⟨B, 5, none⟩ = some (v5) ∧ w'.cell? ⟨B, 6, none⟩ = some (v6) ∧ w'.cell? ⟨B, 7, none⟩ = some (v7) ∧ w'.cell? ⟨B, 8, none⟩ = some (v8) ∧ w'.cell? ⟨B, 9, none⟩ = some (v9) ∧ w'.cell? ⟨B, 10, none⟩ = some (v10) ∧ w'.cell? ⟨B, 11, none⟩ = some (v11) ∧ w'.cell? ⟨B, 12, none⟩ = some (v12) ∧ w'.cell? ⟨B, 13, none⟩ = some (v13) ∧ w'.cell? ⟨B, 14, none⟩ = some (v14) ∧ w'.cell? ⟨B, 15, none⟩ = some (v15) ∧ w'.cell? ⟨b, off + j * 5, none⟩ = some (.string l[j].1.n) ∧ w'.cell? ⟨b, off + j * 5 + 1, none⟩ = some (.slice l[j].2.pr l[j].1.r.length l[j].2.cr) ∧ w'.cell? ⟨b, off + j * 5 + 2, none⟩ = some (.int .i64 l[j].1.t) ∧ w'.cell? ⟨b, off + j * 5 + 3, none⟩ = some (.slice l[j].2.pc l[j].1.cs.length l[j].2.cc) ∧ w'.cell? ⟨b, off + j * 5 + 4, none⟩ = some (.int .i64 l[j].1.x) ∧ Hid (Below wr.heap.size wr w')) := Lib.hid fun w' hb => ⟨keepc hb g0, keepc hb g1, keepc hb g2, keepc hb g3, keepc hb g4, keepc hb g5, keepc hb g6, keepc hb g7, keepc hb g8, keepc hb g9, keepc hb g10, keepc hb g11, keepc hb g12, keepc hb g13, keepc hb g14, keepc hb g15, keepc hb a0, keepc hb a1, keepc hb a2, keepc hb a3, keepc hb a4, Lib.hid hb⟩
      clear HE HI ND
      unfold distV DistD.cells at ND0
      generalize pp l[j].1 = q at *
      generalize l[j] = z at *
      obtain ⟨⟨dn, dr, dt, dc, dx⟩, ⟨pr, cr, pc, cc⟩⟩ := z
      simp only at *
      generalize dr.length = nr at *
      generalize dc.length = nk at *
      have HB1 := Lib.hid (Below.refl wr.heap.size wr)
      have HD := Lib.hid (Below.refl wr.heap.size wr).drew
      cases q with
      | false =>
        have hT : T = false := by rw [← hI]; rfl
        subst hT
        clear hI
        go_upto_region 13 with (fail)
        go_region_held3 (fun w' => w'.cell? ⟨B, 0, none⟩ = some (v0) ∧ w'.cell? ⟨B, 1, none⟩ = some (v1) ∧ w'.cell? ⟨B, 2, none⟩ = some (v2) ∧ w'.cell? ⟨B, 3, none⟩ = some (.slice (some ⟨b, off, none⟩) l.length cap) ∧ w'.cell? ⟨B, 4, none⟩ = some (v4) ∧ w'.cell? ⟨B, 5, none⟩ = some (v5) ∧ w'.cell? ⟨B, 6, none⟩ = some (v6) ∧ w'.cell? ⟨B, 7, none⟩ = some (v7) ∧ w'.cell? ⟨B, 8, none⟩ = some (v8) ∧ w'.cell? ⟨B, 9, none⟩ = some (v9) ∧ w'.cell? ⟨B, 10, none⟩ = some (v10) ∧ w'.cell? ⟨B, 11, none⟩ = some (v11) ∧ w'.cell? ⟨B, 12, none⟩ = some (v12) ∧ w'.cell? ⟨B, 13, none⟩ = some (v13) ∧ w'.cell? ⟨B, 14, none⟩ = some (v14) ∧ w'.cell? ⟨B, 15, none⟩ = some (v15) ∧ w'.cell? ⟨b, off + j * 5, none⟩ = some (.string dn) ∧ w'.cell? ⟨b, off + j * 5 + 1, none⟩ = some (.slice pr nr cr) ∧ w'.cell? ⟨b, off + j * 5 + 2, none⟩ = some (.int .i64 dt) ∧ w'.cell? ⟨b, off + j * 5 + 3, none⟩ = some (.slice pc nk cc) ∧ w'.cell? ⟨b, off + j * 5 + 4, none⟩ = some (.int .i64 dx) ∧ Hid (Below wr.heap.size wr w'))
          (first
            | with_reducible exact HX.out _ HD.out
            | with_reducible exact HX.out _ HB1.out
            | with_reducible exact HX.out _ hb1.out
            | assumption | go_keep)
          ((go_at_call 44; with_reducible refine (ND0.out _ (held21h (by assumption))).mono ?_; rintro e w' ⟨rfl, hb1⟩))
        all_goals
          go_wp2_with fail
          exact HR.out _ _ _ _ _ _ _ _ _ _ _ _ _ _ _ _ _ (by first | rfl | trivial) (Lib.hid (HLW.out _ hb1.out))
      | true =>
        have HI2 : Hid ((l.drop (j + 1)).all (fun z => pp z.1) = T) := Lib.hid (by rw [← hI]; rfl)
        clear hI
        go_upto_region 13 with (fail)
        go_region_held3 (fun w' => w'.cell? ⟨B, 0, none⟩ = some (v0) ∧ w'.cell? ⟨B, 1, none⟩ = some (v1) ∧ w'.cell? ⟨B, 2, none⟩ = some (v2) ∧ w'.cell? ⟨B, 3, none⟩ = some (.slice (some ⟨b, off, none⟩) l.length cap) ∧ w'.cell? ⟨B, 4, none⟩ = some (v4) ∧ w'.cell? ⟨B, 5, none⟩ = some (v5) ∧ w'.cell? ⟨B, 6, none⟩ = some (v6) ∧ w'.cell? ⟨B, 7, none⟩ = some (v7) ∧ w'.cell? ⟨B, 8, none⟩ = some (v8) ∧ w'.cell? ⟨B, 9, none⟩ = some (v9) ∧ w'.cell? ⟨B, 10, none⟩ = some (v10) ∧ w'.cell? ⟨B, 11, none⟩ = some (v11) ∧ w'.cell? ⟨B, 12, none⟩ = some (v12) ∧ w'.cell? ⟨B, 13, none⟩ = some (v13) ∧ w'.cell? ⟨B, 14, none⟩ = some (v14) ∧ w'.cell? ⟨B, 15, none⟩ = some (v15) ∧ w'.cell? ⟨b, off + j * 5, none⟩ = some (.string dn) ∧ w'.cell? ⟨b, off + j * 5 + 1, none⟩ = some (.slice pr nr cr) ∧ w'.cell? ⟨b, off + j * 5 + 2, none⟩ = some (.int .i64 dt) ∧ w'.cell? ⟨b, off + j * 5 + 3, none⟩ = some (.slice pc nk cc) ∧ w'.cell? ⟨b, off + j * 5 + 4, none⟩ = some (.int .i64 dx) ∧ Hid (Below wr.heap.size wr w'))
          (first
            | with_reducible exact HX.out _ HD.out
            | with_reducible exact HX.out _ HB1.out
            | with_reducible exact HX.out _ hb1.out
            | assumption | go_keep)
          ((go_at_call 44; with_reducible refine (ND0.out _ (held21h (by assumption))).mono ?_; rintro e w' ⟨rfl, hb1⟩))
        all_goals
          go_wp2_with fail
          go_round
          case rel => exact ⟨j + 1, by omega, by go_num, HI2, Lib.hid (HLW.out _ hb1.out)⟩
          case measure => simp [intOf]; omega
    · have hji : ¬ (j : Int) < (l.length : Int) := by omega
      have hT : T = true := by
        have := HI.out
        rw [List.drop_of_length_le (by omega)] at this
        exact this.symm
      subst hT
      obtain ⟨-, -, -, c3, -⟩ := HC.out _ HB.out
      clear HE HI
      go_wp2_with fail
      exact HQ.out _ _ _ _ _ _ _ _ _ _ _ _ _ _ _ _ _ _ (by first | rfl | trivial) HB
end Go.Proofs.YtabdgnigmlpeaaaGreatDoor
/- The specification's Course, whole: it returns what the program returns. -/
namespace Go.Proofs.YtabdgnigmlpeaaaGreatDoor
open Go.RowKit

set_option maxHeartbeats 32000000 in
set_option maxRecDepth 100000 in
theorem rcourse_any {w : World} {Q : Nat → Prop} {c : Crs} {x : CLoc} (h : CourseIn w Q c x) (W : World) (hW : Below w.heap.size w W) :
    Calls Tryz.prog 13 #[courseV c x] W fun e w' => e = .returned (.int .i64 (courseE c)) ∧ Below W.heap.size W w' := by
  have hA := (Below.refl W.heap.size W).alloc (Nat.le_refl _) (.cells (cellsC c x).toArray 33)
  have HWW : Hid (∀ w', Below (W.alloc (.cells (cellsC c x).toArray 33)).heap.size (W.alloc (.cells (cellsC c x).toArray 33)) w' → Below W.heap.size W w') := Lib.hid fun w' hb => hA.trans (hb.mono hA.size)
  have HQ : ∀ w', Below (W.alloc (.cells (cellsC c x).toArray 33)).heap.size (W.alloc (.cells (cellsC c x).toArray 33)) w' → Below w.heap.size w w' := fun w' hb => hW.trans ((HWW.out w' hb).mono hW.size)
  have N0 : Hid (∀ V, Below (W.alloc (.cells (cellsC c x).toArray 33)).heap.size (W.alloc (.cells (cellsC c x).toArray 33)) V → Calls Tryz.prog 41 #[courseV c x] V fun e w' => e = .returned (.bool (limE c)) ∧ Below V.heap.size V w') := Lib.hid fun V hV => rcounts_any h V (HQ V hV)
  have N1 : Hid (limE c = true → ∀ V, Below (W.alloc (.cells (cellsC c x).toArray 33)).heap.size (W.alloc (.cells (cellsC c x).toArray 33)) V → Calls Tryz.prog 42 #[courseV c x] V fun e w' => e = .returned (.bool (namesE c)) ∧ Below V.heap.size V w') := Lib.hid fun hl V hV => rnamed_any h hl V (HQ V hV)
  have N2 : Hid (limE c = true → ∀ V, Below (W.alloc (.cells (cellsC c x).toArray 33)).heap.size (W.alloc (.cells (cellsC c x).toArray 33)) V → Calls Tryz.prog 43 #[courseV c x] V fun e w' => e = .returned (.bool (rangeE c)) ∧ Below V.heap.size V w') := Lib.hid fun hl V hV => rranges_any h hl V (HQ V hV)
  have N3 : Hid (∀ V, Below (W.alloc (.cells (cellsC c x).toArray 33)).heap.size (W.alloc (.cells (cellsC c x).toArray 33)) V → Calls Tryz.prog 19 #[.slice x.pt c.ties.length x.ct] V fun e w' => e = .returned (.int .i64 (tiesE c.ties)) ∧ Below V.heap.size V w') := Lib.hid fun V hV => by
    have := rties_any (h.ties.keep2 (Q' := Q) (HQ V hV).size fun b h1 hl => ⟨h1, (HQ V hV).block b hl⟩)
    rwa [← ties_same] at this
  obtain ⟨es, hes, ⟨b3, off3, hb3, hc3⟩, hdi⟩ := h.dists
  have hle : c.dists.length = es.length := by rw [← hes, List.length_map]
  have hrt : routesE c = es.all (fun z => routeE c.mats (c.legs.map endsOf) z.1) := by unfold routesE; rw [← hes, List.all_map]; rfl
  have hll : limE c = true → es.length ≤ 1000 := fun hl => by
    unfold limE at hl
    simp only [Bool.and_eq_true, decide_eq_true_eq] at hl
    omega
  have HCells : Hid (∀ w', Below (W.alloc (.cells (cellsC c x).toArray 33)).heap.size (W.alloc (.cells (cellsC c x).toArray 33)) w' → w'.cell? ⟨W.heap.size, 0, none⟩ = some (.string c.n) ∧ w'.cell? ⟨W.heap.size, 1, none⟩ = some (.slice x.pm c.mats.length x.cm) ∧ w'.cell? ⟨W.heap.size, 2, none⟩ = some (.slice x.pl c.legs.length x.cl) ∧ w'.cell? ⟨W.heap.size, 3, none⟩ = some (.slice x.pd es.length x.cd) ∧ w'.cell? ⟨W.heap.size, 4, none⟩ = some (.slice x.pw c.waves.length x.cw) ∧ w'.cell? ⟨W.heap.size, 5, none⟩ = some (.slice x.po c.offs.length x.co) ∧ w'.cell? ⟨W.heap.size, 6, none⟩ = some (.slice x.pc c.cats.length x.cc) ∧ w'.cell? ⟨W.heap.size, 7, none⟩ = some (.slice x.pz c.prizes.length x.cz) ∧ w'.cell? ⟨W.heap.size, 8, none⟩ = some (.slice x.pt c.ties.length x.ct) ∧ w'.cell? ⟨W.heap.size, 9, none⟩ = some (.int .i64 c.fm) ∧ w'.cell? ⟨W.heap.size, 10, none⟩ = some (.int .i64 c.fs) ∧ w'.cell? ⟨W.heap.size, 11, none⟩ = some (.int .i64 c.fw) ∧ w'.cell? ⟨W.heap.size, 12, none⟩ = some (.int .i64 c.fr) ∧ w'.cell? ⟨W.heap.size, 13, none⟩ = some (.int .i64 c.fd) ∧ w'.cell? ⟨W.heap.size, 14, none⟩ = some (.int .i64 c.fee) ∧ w'.cell? ⟨W.heap.size, 15, none⟩ = some (.int .i64 c.dl)) := Lib.hid fun w' hb => ⟨keepc hb (by simp [cellsC, go_sem]), keepc hb (by simp [cellsC, go_sem]), keepc hb (by simp [cellsC, go_sem]), keepc hb (by simp [cellsC, go_sem, hle]), keepc hb (by simp [cellsC, go_sem]), keepc hb (by simp [cellsC, go_sem]), keepc hb (by simp [cellsC, go_sem]), keepc hb (by simp [cellsC, go_sem]), keepc hb (by simp [cellsC, go_sem]), keepc hb (by simp [cellsC, go_sem]), keepc hb (by simp [cellsC, go_sem]), keepc hb (by simp [cellsC, go_sem]), keepc hb (by simp [cellsC, go_sem]), keepc hb (by simp [cellsC, go_sem]), keepc hb (by simp [cellsC, go_sem]), keepc hb (by simp [cellsC, go_sem])⟩
  have HE3 : Hid (∀ w', Below (W.alloc (.cells (cellsC c x).toArray 33)).heap.size (W.alloc (.cells (cellsC c x).toArray 33)) w' → ∀ j (h : j < es.length), x.pd = some ⟨b3, off3, none⟩ ∧ w'.cell? ⟨b3, off3 + j * 5, none⟩ = some (.string es[j].1.n) ∧ w'.cell? ⟨b3, off3 + j * 5 + 1, none⟩ = some (.slice es[j].2.pr es[j].1.r.length es[j].2.cr) ∧ w'.cell? ⟨b3, off3 + j * 5 + 2, none⟩ = some (.int .i64 es[j].1.t) ∧ w'.cell? ⟨b3, off3 + j * 5 + 3, none⟩ = some (.slice es[j].2.pc es[j].1.cs.length es[j].2.cc) ∧ w'.cell? ⟨b3, off3 + j * 5 + 4, none⟩ = some (.int .i64 es[j].1.x)) := Lib.hid fun w' hb j hj => ⟨(hb3.hb (by omega)).1, keepc (HQ w' hb) (hc3 j hj 0 _ rfl), keepc (HQ w' hb) (hc3 j hj 1 _ rfl), keepc (HQ w' hb) (hc3 j hj 2 _ rfl), keepc (HQ w' hb) (hc3 j hj 3 _ rfl), keepc (HQ w' hb) (hc3 j hj 4 _ rfl)⟩
  have ND : Hid (limE c = true → rangeE c = true → ∀ j (h : j < es.length) V, Below (W.alloc (.cells (cellsC c x).toArray 33)).heap.size (W.alloc (.cells (cellsC c x).toArray 33)) V → Calls Tryz.prog 44 #[.agg #[.string c.n, .slice x.pm c.mats.length x.cm, .slice x.pl c.legs.length x.cl, .slice x.pd es.length x.cd, .slice x.pw c.waves.length x.cw, .slice x.po c.offs.length x.co, .slice x.pc c.cats.length x.cc, .slice x.pz c.prizes.length x.cz, .slice x.pt c.ties.length x.ct, .int .i64 c.fm, .int .i64 c.fs, .int .i64 c.fw, .int .i64 c.fr, .int .i64 c.fd, .int .i64 c.fee, .int .i64 c.dl], distV es[j].1 es[j].2] V fun e w' => e = .returned (.bool (routeE c.mats (c.legs.map endsOf) es[j].1)) ∧ Below V.heap.size V w') := Lib.hid fun hl hr j hj V hV => by
    have hl2 := hl
    unfold limE at hl2
    simp only [Bool.and_eq_true, decide_eq_true_eq] at hl2
    unfold rangeE at hr
    simp only [Bool.and_eq_true, decide_eq_true_eq] at hr
    have hmem : es[j].1 ∈ c.dists := by rw [← hes]; exact List.mem_map.2 ⟨_, List.getElem_mem hj, rfl⟩
    have := rroute_any h hl (hdi j hj) (List.all_eq_true.1 hr.2.2.2.1 _ hmem) (List.all_eq_true.1 hl2.2.2.2.2.2.2.2 _ hmem) V (HQ V hV)
    unfold courseV cellsC at this
    rw [hle] at this
    exact this
  have hCs : (cellsC c x).toArray.size = 16 := rfl
  have HLd : Hid (∀ w', Below (W.alloc (.cells (cellsC c x).toArray 33)).heap.size (W.alloc (.cells (cellsC c x).toArray 33)) w' → (Instr.loadAt 33 (.pointer (some ⟨W.heap.size, 0, none⟩))).run Tryz.prog w' = .ok (.agg (cellsC c x).toArray) w') := Lib.hid fun w' hb => ld_keep hCs hb
  have HB0 := Lib.hid (Below.refl (W.alloc (.cells (cellsC c x).toArray 33)).heap.size (W.alloc (.cells (cellsC c x).toArray 33)))
  have HF : Hid (∀ w', Below (W.alloc (.cells (cellsC c x).toArray 33)).heap.size (W.alloc (.cells (cellsC c x).toArray 33)) w' → Hid ((Instr.loadAt 33 (.pointer (some ⟨W.heap.size, 0, none⟩))).run Tryz.prog w' = .ok (courseV c x) w') ∧ w'.cell? ⟨W.heap.size, 8, none⟩ = some (.slice x.pt c.ties.length x.ct)) := Lib.hid fun w' hb => ⟨Lib.hid (ld_keep hCs hb), keepc hb (by simp [cellsC, go_sem])⟩
  have HLL := Lib.hid hll
  clear h hW hA HQ hb3 hc3 hdi hCs hes hle hll
  unfold courseE
  rw [hrt]
  clear hrt
  unfold courseV at *
  generalize (cellsC c x).toArray = cs at *
  obtain ⟨HL0, k8⟩ := HF.out _ HB0.out
  obtain ⟨q0, hq0⟩ : ∃ q, limE c = q := ⟨_, rfl⟩
  obtain ⟨q2, hq2⟩ : ∃ q, rangeE c = q := ⟨_, rfl⟩
  rw [hq0] at N0 N1 N2 ND HLL ⊢
  rw [hq2] at N2 ND ⊢
  clear hq0 hq2
  generalize namesE c = q1 at *
  generalize tiesE c.ties = q3 at *
  generalize hnt : c.ties.length = nt at *
  clear hnt
  cases q0 with
  | false =>
    go_enter Tryz.func13, Tryz.ntmps13
    go_wp2_with (first
      | go_skip
      | (refine wpList_loadW (ty := 33) (x := .tmp 1) rfl rfl rfl HL0.out ?_)
      | (go_at_call 41; (with_reducible refine (N0.out _ HB0.out).mono ?_); rintro e w1 ⟨rfl, hb⟩; have HB1 := Lib.hid (HB0.out.trans (hb.mono HB0.out.size)); obtain ⟨HL1, z1⟩ := HF.out _ HB1.out; clear hb))
    go_ret
    exact ⟨by simp, HWW.out _ HB1.out⟩
  | true =>
    cases q1 with
    | false =>
      go_enter Tryz.func13, Tryz.ntmps13
      go_wp2_with (first
        | go_skip
        | (refine wpList_loadW (ty := 33) (x := .tmp 1) rfl rfl rfl HL0.out ?_)
        | (go_at_call 41; (with_reducible refine (N0.out _ HB0.out).mono ?_); rintro e w1 ⟨rfl, hb⟩; have HB1 := Lib.hid (HB0.out.trans (hb.mono HB0.out.size)); obtain ⟨HL1, z1⟩ := HF.out _ HB1.out; clear hb)
        | (refine wpList_loadW (ty := 33) (x := .tmp 1) rfl rfl rfl HL1.out ?_)
        | (go_at_call 42; (with_reducible refine (N1.out (by trivial) _ HB1.out).mono ?_); rintro e w2 ⟨rfl, hb⟩; have HB2 := Lib.hid (HB1.out.trans (hb.mono HB1.out.size)); obtain ⟨HL2, z2⟩ := HF.out _ HB2.out; clear hb))
      go_ret
      exact ⟨by simp, HWW.out _ HB2.out⟩
    | true =>
      cases q2 with
      | false =>
        go_enter Tryz.func13, Tryz.ntmps13
        go_wp2_with (first
          | go_skip
          | (refine wpList_loadW (ty := 33) (x := .tmp 1) rfl rfl rfl HL0.out ?_)
          | (go_at_call 41; (with_reducible refine (N0.out _ HB0.out).mono ?_); rintro e w1 ⟨rfl, hb⟩; have HB1 := Lib.hid (HB0.out.trans (hb.mono HB0.out.size)); obtain ⟨HL1, z1⟩ := HF.out _ HB1.out; clear hb)
          | (refine wpList_loadW (ty := 33) (x := .tmp 1) rfl rfl rfl HL1.out ?_)
          | (go_at_call 42; (with_reducible refine (N1.out (by trivial) _ HB1.out).mono ?_); rintro e w2 ⟨rfl, hb⟩; have HB2 := Lib.hid (HB1.out.trans (hb.mono HB1.out.size)); obtain ⟨HL2, z2⟩ := HF.out _ HB2.out; clear hb)
          | (refine wpList_loadW (ty := 33) (x := .tmp 1) rfl rfl rfl HL2.out ?_)
          | (go_at_call 43; (with_reducible refine (N2.out (by trivial) _ HB2.out).mono ?_); rintro e w3 ⟨rfl, hb⟩; have HB3 := Lib.hid (HB2.out.trans (hb.mono HB2.out.size)); obtain ⟨HL3, z3⟩ := HF.out _ HB3.out; clear hb))
        go_ret
        exact ⟨by simp, HWW.out _ HB3.out⟩
      | true =>
        by_cases h3 : q3 = 0
        · subst h3
          obtain ⟨q4, hq4⟩ : ∃ q, es.all (fun z => routeE c.mats (c.legs.map endsOf) z.1) = q := ⟨_, rfl⟩
          rw [hq4]
          have HQ4 := Lib.hid hq4
          clear hq4
          have H4 : Hid ((if true = false then (2 : Int) else if true = false then 70 else if true = false then 71 else if (0 : Int) ≠ 0 then 0 else if q4 = false then 72 else 0) = if q4 = false then 72 else 0) := Lib.hid (by rw [if_neg (by decide), if_neg (by decide), if_neg (by decide), if_neg (by decide)])
          rw [H4.out]
          go_enter Tryz.func13, Tryz.ntmps13
          go_upto_block 0 with (first
            | go_skip
            | (refine wpList_loadW (ty := 33) (x := .tmp 1) rfl rfl rfl HL0.out ?_)
            | (go_at_call 41; (with_reducible refine (N0.out _ HB0.out).mono ?_); rintro e w1 ⟨rfl, hb⟩; have HB1 := Lib.hid (HB0.out.trans (hb.mono HB0.out.size)); obtain ⟨HL1, z1⟩ := HF.out _ HB1.out; clear hb)
            | (refine wpList_loadW (ty := 33) (x := .tmp 1) rfl rfl rfl HL1.out ?_)
            | (go_at_call 42; (with_reducible refine (N1.out (by trivial) _ HB1.out).mono ?_); rintro e w2 ⟨rfl, hb⟩; have HB2 := Lib.hid (HB1.out.trans (hb.mono HB1.out.size)); obtain ⟨HL2, z2⟩ := HF.out _ HB2.out; clear hb)
            | (refine wpList_loadW (ty := 33) (x := .tmp 1) rfl rfl rfl HL2.out ?_)
            | (go_at_call 43; (with_reducible refine (N2.out (by trivial) _ HB2.out).mono ?_); rintro e w3 ⟨rfl, hb⟩; have HB3 := Lib.hid (HB2.out.trans (hb.mono HB2.out.size)); obtain ⟨HL3, z3⟩ := HF.out _ HB3.out; clear hb)
            | (go_at_call 19; (with_reducible refine (N3.out _ HB3.out).mono ?_); rintro e w4 ⟨rfl, hb⟩; have HB4 := Lib.hid (HB3.out.trans (hb.mono HB3.out.size)); obtain ⟨HL4, z4⟩ := HF.out _ HB4.out; clear hb))
          refine rcA_any (A := (W.alloc (.cells cs 33))) (B := W.heap.size) (l := es) (pp := routeE c.mats (c.legs.map endsOf)) _ (HLL.out (by trivial)) (Lib.hid fun j hj V hV => ND.out (by trivial) (by trivial) j hj V hV) HCells HE3 ?hQ ?hR HB4
          case hR =>
            intro _ _ _ _ _ _ _ _ _ _ _ _ _ _ _ _ w9 hq HB9
            have hq4 : q4 = false := by rw [← HQ4.out, hq]
            subst hq4
            go_ret
            exact ⟨rfl, HWW.out _ HB9.out⟩
          case hQ =>
            intro _ _ _ _ _ _ _ _ _ _ _ _ _ _ _ _ _ w9 hq HB9
            have hq4 : q4 = true := by rw [← HQ4.out, hq]
            subst hq4
            clear hq HQ4
            go_wp2_with fail
            go_ret
            exact ⟨rfl, HWW.out _ HB9.out⟩
        · have h4 : (q3 != 0) = true := by simpa using h3
          have H3 : Hid ((if true = false then (2 : Int) else if true = false then 70 else if true = false then 71 else if q3 ≠ 0 then q3 else if (es.all (fun z => routeE c.mats (c.legs.map endsOf) z.1)) = false then 72 else 0) = q3) := Lib.hid (by rw [if_neg (by decide), if_neg (by decide), if_neg (by decide), if_pos h3])
          rw [H3.out]
          clear h3
          go_enter Tryz.func13, Tryz.ntmps13
          go_wp2_with (first
            | go_skip
            | (refine wpList_loadW (ty := 33) (x := .tmp 1) rfl rfl rfl HL0.out ?_)
            | (go_at_call 41; (with_reducible refine (N0.out _ HB0.out).mono ?_); rintro e w1 ⟨rfl, hb⟩; have HB1 := Lib.hid (HB0.out.trans (hb.mono HB0.out.size)); obtain ⟨HL1, z1⟩ := HF.out _ HB1.out; clear hb)
            | (refine wpList_loadW (ty := 33) (x := .tmp 1) rfl rfl rfl HL1.out ?_)
            | (go_at_call 42; (with_reducible refine (N1.out (by trivial) _ HB1.out).mono ?_); rintro e w2 ⟨rfl, hb⟩; have HB2 := Lib.hid (HB1.out.trans (hb.mono HB1.out.size)); obtain ⟨HL2, z2⟩ := HF.out _ HB2.out; clear hb)
            | (refine wpList_loadW (ty := 33) (x := .tmp 1) rfl rfl rfl HL2.out ?_)
            | (go_at_call 43; (with_reducible refine (N2.out (by trivial) _ HB2.out).mono ?_); rintro e w3 ⟨rfl, hb⟩; have HB3 := Lib.hid (HB2.out.trans (hb.mono HB2.out.size)); obtain ⟨HL3, z3⟩ := HF.out _ HB3.out; clear hb)
            | (go_at_call 19; (with_reducible refine (N3.out _ HB3.out).mono ?_); rintro e w4 ⟨rfl, hb⟩; have HB4 := Lib.hid (HB3.out.trans (hb.mono HB3.out.size)); obtain ⟨HL4, z4⟩ := HF.out _ HB4.out; clear hb))
          go_ret
          exact ⟨rfl, HWW.out _ HB4.out⟩
end Go.Proofs.YtabdgnigmlpeaaaGreatDoor
/- The law: TypingCourseSpec. -/
namespace Go.Proofs.YtabdgnigmlpeaaaGreatDoor
open Go.RowKit

theorem held16h {A0 A1 A2 A3 A4 A5 A6 A7 A8 A9 A10 A11 A12 A13 A14 A15 H : Prop} (h : A0 ∧ A1 ∧ A2 ∧ A3 ∧ A4 ∧ A5 ∧ A6 ∧ A7 ∧ A8 ∧ A9 ∧ A10 ∧ A11 ∧ A12 ∧ A13 ∧ A14 ∧ A15 ∧ Hid H) : H := h.2.2.2.2.2.2.2.2.2.2.2.2.2.2.2.2.out
set_option maxHeartbeats 8000000 in
set_option maxRecDepth 100000 in
theorem cspec_walk {w : World} {v0 v1 v2 v3 v4 v5 v6 v7 v8 v9 v10 v11 v12 v13 v14 v15 : Value} {r : Int}
    (K0 : Hid (∀ A w', Below w.heap.size w A → Below A.heap.size A w' → Calls Tryz.prog 11 #[.agg #[v0, v1, v2, v3, v4, v5, v6, v7, v8, v9, v10, v11, v12, v13, v14, v15]] w' fun e w2 => (∃ q, e = .returned (.bool q)) ∧ Hid (Below A.heap.size A w2)))
    (K1 : Hid (∀ A w', Below w.heap.size w A → Below A.heap.size A w' → Calls Tryz.prog 12 #[.agg #[v0, v1, v2, v3, v4, v5, v6, v7, v8, v9, v10, v11, v12, v13, v14, v15]] w' fun e w2 => e = .returned (.int .i64 r) ∧ Hid (Below A.heap.size A w2)))
    (K2 : Hid (∀ A w', Below w.heap.size w A → Below A.heap.size A w' → Calls Tryz.prog 13 #[.agg #[v0, v1, v2, v3, v4, v5, v6, v7, v8, v9, v10, v11, v12, v13, v14, v15]] w' fun e w2 => e = .returned (.int .i64 r) ∧ Hid (Below A.heap.size A w2))) :
    Calls Tryz.prog 3 #[.agg #[v0, v1, v2, v3, v4, v5, v6, v7, v8, v9, v10, v11, v12, v13, v14, v15]] w fun e w' => e = .returned (.bool true) ∧ Below w.heap.size w w' := by
  have HA := Lib.hid ((Below.refl w.heap.size w).alloc (Nat.le_refl _) (.cells #[v0, v1, v2, v3, v4, v5, v6, v7, v8, v9, v10, v11, v12, v13, v14, v15] 33))
  have HX : Hid (∀ w', Below (w.alloc (.cells #[v0, v1, v2, v3, v4, v5, v6, v7, v8, v9, v10, v11, v12, v13, v14, v15] 33)).heap.size (w.alloc (.cells #[v0, v1, v2, v3, v4, v5, v6, v7, v8, v9, v10, v11, v12, v13, v14, v15] 33)) w' → w'.cell? ⟨w.heap.size, 0, none⟩ = some v0 ∧ w'.cell? ⟨w.heap.size, 1, none⟩ = some v1 ∧ w'.cell? ⟨w.heap.size, 2, none⟩ = some v2 ∧ w'.cell? ⟨w.heap.size, 3, none⟩ = some v3 ∧ w'.cell? ⟨w.heap.size, 4, none⟩ = some v4 ∧ w'.cell? ⟨w.heap.size, 5, none⟩ = some v5 ∧ w'.cell? ⟨w.heap.size, 6, none⟩ = some v6 ∧ w'.cell? ⟨w.heap.size, 7, none⟩ = some v7 ∧ w'.cell? ⟨w.heap.size, 8, none⟩ = some v8 ∧ w'.cell? ⟨w.heap.size, 9, none⟩ = some v9 ∧ w'.cell? ⟨w.heap.size, 10, none⟩ = some v10 ∧ w'.cell? ⟨w.heap.size, 11, none⟩ = some v11 ∧ w'.cell? ⟨w.heap.size, 12, none⟩ = some v12 ∧ w'.cell? ⟨w.heap.size, 13, none⟩ = some v13 ∧ w'.cell? ⟨w.heap.size, 14, none⟩ = some v14 ∧ w'.cell? ⟨w.heap.size, 15, none⟩ = some v15 ∧ Hid (Below (w.alloc (.cells #[v0, v1, v2, v3, v4, v5, v6, v7, v8, v9, v10, v11, v12, v13, v14, v15] 33)).heap.size (w.alloc (.cells #[v0, v1, v2, v3, v4, v5, v6, v7, v8, v9, v10, v11, v12, v13, v14, v15] 33)) w')) := Lib.hid fun w' hb =>
    ⟨keepc hb (by simp [go_sem]), keepc hb (by simp [go_sem]), keepc hb (by simp [go_sem]), keepc hb (by simp [go_sem]), keepc hb (by simp [go_sem]), keepc hb (by simp [go_sem]), keepc hb (by simp [go_sem]), keepc hb (by simp [go_sem]), keepc hb (by simp [go_sem]), keepc hb (by simp [go_sem]), keepc hb (by simp [go_sem]), keepc hb (by simp [go_sem]), keepc hb (by simp [go_sem]), keepc hb (by simp [go_sem]), keepc hb (by simp [go_sem]), keepc hb (by simp [go_sem]), Lib.hid hb⟩
  have b1 : (r == r) = true := beq_self_eq_true r
  go_enter Tryz.func3, Tryz.ntmps3
  go_wp2_with fail
  go_at_call 10
  generalize (w.alloc (.cells #[v0, v1, v2, v3, v4, v5, v6, v7, v8, v9, v10, v11, v12, v13, v14, v15] 33)) = A at *
  refine (sane_any A).mono ?_
  rintro e w1 ⟨rfl, hb⟩
  have HB := Lib.hid hb
  obtain ⟨y0, y1, y2, y3, y4, y5, y6, y7, y8, y9, y10, y11, y12, y13, y14, y15, -⟩ := HX.out w1 hb
  clear hb
  go_wp2_with fail
  go_at_call 11
  with_reducible refine (K0.out A _ HA.out HB.out).mono ?_
  rintro e w2 ⟨⟨q, rfl⟩, hb0⟩
  clear y0 y1 y2 y3 y4 y5 y6 y7 y8 y9 y10 y11 y12 y13 y14 y15
  obtain ⟨y0, y1, y2, y3, y4, y5, y6, y7, y8, y9, y10, y11, y12, y13, y14, y15, -⟩ := HX.out w2 hb0.out
  have HD := Lib.hid hb0.out.drew
  cases q with
  | false =>
    go_wp2_with fail
    go_ret
    exact ⟨rfl, HA.out.trans (hb0.out.mono HA.out.size)⟩
  | true =>
    go_upto_region 5 with (fail)
    go_region_held3 (fun w' => w'.cell? ⟨w.heap.size, 0, none⟩ = some v0 ∧ w'.cell? ⟨w.heap.size, 1, none⟩ = some v1 ∧ w'.cell? ⟨w.heap.size, 2, none⟩ = some v2 ∧ w'.cell? ⟨w.heap.size, 3, none⟩ = some v3 ∧ w'.cell? ⟨w.heap.size, 4, none⟩ = some v4 ∧ w'.cell? ⟨w.heap.size, 5, none⟩ = some v5 ∧ w'.cell? ⟨w.heap.size, 6, none⟩ = some v6 ∧ w'.cell? ⟨w.heap.size, 7, none⟩ = some v7 ∧ w'.cell? ⟨w.heap.size, 8, none⟩ = some v8 ∧ w'.cell? ⟨w.heap.size, 9, none⟩ = some v9 ∧ w'.cell? ⟨w.heap.size, 10, none⟩ = some v10 ∧ w'.cell? ⟨w.heap.size, 11, none⟩ = some v11 ∧ w'.cell? ⟨w.heap.size, 12, none⟩ = some v12 ∧ w'.cell? ⟨w.heap.size, 13, none⟩ = some v13 ∧ w'.cell? ⟨w.heap.size, 14, none⟩ = some v14 ∧ w'.cell? ⟨w.heap.size, 15, none⟩ = some v15 ∧ Hid (Below A.heap.size A w'))
      (first
        | with_reducible exact HX.out _ HD.out
        | with_reducible exact HX.out _ hb0.out
        | with_reducible exact HX.out _ hb2.out
        | with_reducible exact HX.out _ hb1.out
        | assumption | go_keep)
      (first
        | (go_at_call 12; with_reducible refine (K1.out A _ HA.out (held16h (by assumption))).mono ?_; rintro e w' ⟨rfl, hb1⟩)
        | (go_at_call 13; with_reducible refine (K2.out A _ HA.out (held16h (by assumption))).mono ?_; rintro e w' ⟨rfl, hb2⟩))
    all_goals
      go_wp2_with fail
      go_ret
      first
        | exact ⟨rfl, HA.out.trans (hb2.out.mono HA.out.size)⟩
        | exact ⟨rfl, HA.out.trans (hb1.out.mono HA.out.size)⟩
theorem courseSpec_any {w : World} {Q : Nat → Prop} {c : Crs} {x : CLoc} (h : CourseIn w Q c x) (hz : CourseSz c) (hcn : c.n.size ≤ maxLen) (hwl : ∀ z ∈ c.legs, WfE (endsOf z)) (hwp : ∀ z ∈ c.prizes, WfT (threeOf z)) :
    Calls Tryz.prog 3 #[courseV c x] w fun e w' => e = .returned (.bool true) ∧ Below w.heap.size w w' :=
  cspec_walk (r := courseE c)
    (Lib.hid fun _ w' h0 hb => (rfew_any h hcn w' (h0.trans (hb.mono h0.size))).mono fun _ _ ⟨q, he, hr⟩ => ⟨⟨q, he⟩, Lib.hid (hb.trans (hr.mono hb.size))⟩)
    (Lib.hid fun _ _ h0 hb => (tCourse_any (h.bel (h0.trans (hb.mono h0.size))) hz hwl hwp).mono fun _ _ hr => ⟨hr.1, Lib.hid (hb.trans (hr.2.mono hb.size))⟩)
    (Lib.hid fun _ w' h0 hb => (rcourse_any h w' (h0.trans (hb.mono h0.size))).mono fun _ _ hr => ⟨hr.1, Lib.hid (hb.trans (hr.2.mono hb.size))⟩)
end Go.Proofs.YtabdgnigmlpeaaaGreatDoor
/- TypingCourseSpec: the law returns true for all arguments. -/
namespace Go.Proofs.YtabdgnigmlpeaaaGreatDoor.typingCourseSpec
open Go.ChangeShapes Go.WideShapes Go.ChangeAt Go.RowKit Go.ChangeMaps

theorem own : ownKnob Tryz.prog.godebug = none := by kernel_rfl


theorem witness (os : Os) {H : Type} (enc : TypeId × Value → H) :
    ∃ (w : World) (tape : Tape) (i : Input), w.os = os ∧ (w.forCall tape i).Shaped Tryz.checked.prog ∧ i.vars = [] ∧ Input.okWide Tryz.checked.prog (w.forCall tape i) .any w.heap.size 3 i ∧
      ((Rows.typingCourseSpecSpec.pre enc Tryz.checked.prog Tryz.f3 Rows.typingCourseSpecRow.domain false (w.forCall tape i).memory i.args ∧ laidMetH Tryz.prog Rows.typingCourseSpecRow.laid (w.forCall tape i).memory) ∧ sizedMet enc Tryz.checked.prog Tryz.f3 (OpenSpec.ofChange Rows.typingCourseSpecSpec) false (w.forCall tape i).memory i.args) ∧ ({ modest := false } : Assume).holds Tryz.checked.prog (lone (Frame.enter Tryz.checked.prog 3 i.args .normal) [] (w.forCall tape i)) :=
  ChangeSpec.witness_shaped (enc := enc) (C := Tryz.checked) (os := os) (X := fun w _ => laidMetH Tryz.prog Rows.typingCourseSpecRow.laid w) false (World.laidAll Tryz.prog os Rows.typingCourseSpecRow.laid) #[.agg #[.string ⟨#[]⟩, .slice none 0 0, .slice none 0 0, .slice none 0 0, .slice none 0 0, .slice none 0 0, .slice none 0 0, .slice none 0 0, .slice none 0 0, .int .i64 0, .int .i64 0, .int .i64 0, .int .i64 0, .int .i64 0, .int .i64 0, .int .i64 0]] 8 (World.laidAll_os _ _ _)
    (World.shaped_of_ZipB (by kernel_rfl) (by kernel_rfl)) (by kernel_rfl) (by kernel_rfl) (by kernel_rfl)
    (by rw [MakeChecks.laidMetH_plain _ _ _ (by kernel_rfl)]; exact laidMet_laidAll _ (by kernel_rfl) (by kernel_rfl))

set_option maxHeartbeats 1000000 in
set_option maxRecDepth 100000 in
theorem lifted (os : Os) (started : os.Started) (H : Type) (enc : TypeId × Value → H) (F : Stop.Interp) :
    ReturnsInHanded {} Tryz.checked os 3 .any ((OpenSpec.ofChange Rows.typingCourseSpecSpec).preRow enc Tryz.prog Tryz.f3 Rows.typingCourseSpecRow.domain false Rows.typingCourseSpecRow.laid)
      (((OpenSpec.ofChange Rows.typingCourseSpecSpec).at F).post enc Tryz.prog Tryz.f3 false true false false) := by
  refine returnsInHanded_of_row (C := Tryz.checked) (s := OpenSpec.ofChange Rows.typingCourseSpecSpec) own started (by kernel_rfl) Tryz.func3 (witness os enc) ?_
  intro W base args ds gs before hval0 hW _ _ hsz0 hL hsh _
  have hsz : (DataW.weightsEach Tryz.prog (Tryz.f3.params.toList ++ (OpenSpec.ofChange Rows.typingCourseSpecSpec).bare.plain.varTypes Tryz.prog) (ds ++ gs)).all (· ≤ reachBytes) = true := hsz0
  clear hsz0
  have hval : ∀ (j : Nat) t v, Tryz.f3.params[j]? = some t → args[j]? = some v → Value.okWide Tryz.prog W .any base t v := hval0
  have hW' := hW
  obtain ⟨p, q, hA0, hV0, rfl, hfz, hnd⟩ := hW
  have hA : DataW.TrodAll enc Tryz.prog W 0 (fun _ => true) true Tryz.f3.params.toList args.toList ds p := hA0
  have hV : DataW.TrodVars enc Tryz.prog W (fun _ => true) [] gs q := hV0
  rw [Tryz.params3] at hA hval hsz
  obtain ⟨v0, d0, rfl, rfl, h0⟩ := trodAll_one hA
  obtain ⟨rfl, rfl⟩ := trodVars_none hV
  have h0k := h0
  have sz0 : ∀ n ∈ d0.weights Tryz.prog 33, n ≤ reachBytes := fun n hn => by
    have := List.all_eq_true.1 hsz n (DataW.weights_mem_each (j := 0) (t := 33) (d := d0) rfl rfl n hn)
    simpa using this
  obtain ⟨u0, x0, rfl, s0, z0, m0, a0, b0⟩ := open_course (hval 0 33 v0 rfl rfl) h0 sz0
  clear hA0 hV0 hval0
  simp only [List.append_nil] at hW'
  have lt0 : ∀ y ∈ p, y.block < W.heap.size := fun y hy => by simpa using hW'.lt y (by simp [hy])
  refine (courseSpec_any s0 z0 m0 a0 b0).mono fun e W' ⟨he, hg⟩ => ?_
  subst he
  exact ⟨_, rfl, _, _, _, [], _, [], hW', trodAll_mk1 (shut_bool Tryz.underlying4 _), trodAll_mk1 (Below.trod laidOut (by kernel_rfl) (of_decide_eq_true (by kernel_rfl)) h0k hg lt0), rfl, hg.frame _, fun h => by cases h⟩

theorem over : Rows.TypingCourseSpecSaid :=
  OpenClaim.holds_of_cond 3 Tryz.f3 rfl rfl rfl rfl rfl rfl rfl ⟨rfl, rfl, rfl, rfl, rfl⟩ rfl rfl rfl rfl rfl (by kernel_rfl) Tryz.func3 (by kernel_rfl)
    (of_decide_eq_true (by kernel_rfl)) (by unfold Func.isWrapper; first | (rw [if_pos (by decide +kernel)]; kernel_rfl) | (rw [if_neg (by decide +kernel)]; exact ⟨rfl, rfl⟩))
    (fun os started H enc _ F0 => by rw [OpenClaim.pre_eq_preRow]; exact lifted os started H enc F0)

/-- THE STATEMENT: the tied card. -/
theorem proved : Rows.TypingCourseSpecCardSaid :=
  Claim7.holds_tied_plain_at .later [] Rows.typingCourseSpecCard.laidKinds true Rows.typingCourseSpecCard.stood.harness true
    over (fun _ h => by cases h) (by kernel_rfl) (fun _ h => by cases h) typingCourseSpec_row_tie rfl ⟨rfl, rfl⟩ (by kernel_rfl) rfl
    (fun f fn hf hfn => by
      obtain rfl : f = 3 := Option.some.inj ((show Tryz.prog.funcNamed "stopwatch/stopwatchlaw07.TypingCourseSpec" = some 3 by kernel_rfl).symm.trans hf) |>.symm
      obtain rfl : fn = Tryz.f3 := (Option.some.inj (Tryz.func3.symm.trans hfn)).symm
      exact ⟨by kernel_rfl, fun j t ht => by
        rw [Tryz.params3] at ht
        have hm : t ∈ [33] := by simpa using Array.mem_of_getElem? ht
        have hall : ([33].all fun u => !Tryz.prog.wantsStandIn u) = true := by kernel_rfl
        exact (show Tryz.prog.wantsStandIn t = false by simpa using List.all_eq_true.1 hall t hm)⟩)
    (by kernel_rfl)
#print axioms proved
end Go.Proofs.YtabdgnigmlpeaaaGreatDoor.typingCourseSpec
