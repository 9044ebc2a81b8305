/- The specification: ranges, whole. -/
import Derived.Test.YtabdgnigmlpeaaaGreatDoorTXB
import Derived.Test.YtabdgnigmlpeaaaGreatDoorTRqD
import Derived.Test.YtabdgnigmlpeaaaGreatDoorTRqE
namespace Go.Proofs.YtabdgnigmlpeaaaGreatDoor
open Go.RowKit

set_option maxHeartbeats 32000000 in
set_option maxRecDepth 100000 in
theorem rranges_any {w : World} {Q : Nat → Prop} {c : Crs} {x : CLoc} (h : CourseIn w Q c x) (hl : limE c = true) (W : World) (hW : Below w.heap.size w W) :
    Calls Tryz.prog 43 #[courseV c x] W fun e w' => e = .returned (.bool (rangeE c)) ∧ Below W.heap.size W w' := by
  unfold limE at hl
  simp only [Bool.and_eq_true, decide_eq_true_eq] at hl
  obtain ⟨l1, l2, l3, l4, l5, l6, l7, -⟩ := hl
  have hA := (Below.refl W.heap.size W).alloc (Nat.le_refl _) (.cells (cellsC c x).toArray 33)
  have HWW : Hid (∀ w', Below (W.alloc (.cells (cellsC c x).toArray 33)).heap.size (W.alloc (.cells (cellsC c x).toArray 33)) w' → Below W.heap.size W w') := Lib.hid fun w' hb => hA.trans (hb.mono hA.size)
  have HQ : ∀ w', Below (W.alloc (.cells (cellsC c x).toArray 33)).heap.size (W.alloc (.cells (cellsC c x).toArray 33)) w' → Below w.heap.size w w' := fun w' hb => hW.trans ((HWW.out w' hb).mono hW.size)
  obtain ⟨es, hes, ⟨b3, off3, hb3, hc3⟩, hdi⟩ := h.dists
  have hle : c.dists.length = es.length := by rw [← hes, List.length_map]
  have hal : c.dists.all (distR c.mats.length) = es.all (fun z => distR c.mats.length z.1) := by rw [← hes, List.all_map]; rfl
  obtain ⟨T, hT⟩ : ∃ T, rangeE c = T := ⟨_, rfl⟩
  rw [hT]
  have HT : Hid (T = (c.mats.all matR && (okL (legR c.mats.length) endsOf c.legs && (es.all (fun z => distR c.mats.length z.1) && (c.waves.all waveR && (c.offs.all offR && (c.cats.all catR && (okL (prizeR es.length c.cats.length) threeOf c.prizes && (inI 0 16 c.fm && (inI 0 16 c.fs && (inI 0 4294967296 c.fw && (inI 0 4294967296 c.fr && (inI 0 100000 c.fd && (inI 0 1125899906842624 c.fee && (inI 0 1099511627776 c.dl))))))))))))))) := Lib.hid (by
    rw [← hT, ← hal, ← hle]
    unfold rangeE okL faultsR
    simp only [Bool.and_assoc])
  have HCells : Hid (∀ w', Below (W.alloc (.cells (cellsC c x).toArray 33)).heap.size (W.alloc (.cells (cellsC c x).toArray 33)) w' → w'.cell? ⟨W.heap.size, 0, none⟩ = some (.string c.n) ∧ w'.cell? ⟨W.heap.size, 1, none⟩ = some (.slice x.pm c.mats.length x.cm) ∧ w'.cell? ⟨W.heap.size, 2, none⟩ = some (.slice x.pl c.legs.length x.cl) ∧ w'.cell? ⟨W.heap.size, 3, none⟩ = some (.slice x.pd es.length x.cd) ∧ w'.cell? ⟨W.heap.size, 4, none⟩ = some (.slice x.pw c.waves.length x.cw) ∧ w'.cell? ⟨W.heap.size, 5, none⟩ = some (.slice x.po c.offs.length x.co) ∧ w'.cell? ⟨W.heap.size, 6, none⟩ = some (.slice x.pc c.cats.length x.cc) ∧ w'.cell? ⟨W.heap.size, 7, none⟩ = some (.slice x.pz c.prizes.length x.cz) ∧ w'.cell? ⟨W.heap.size, 8, none⟩ = some (.slice x.pt c.ties.length x.ct) ∧ w'.cell? ⟨W.heap.size, 9, none⟩ = some (.int .i64 c.fm) ∧ w'.cell? ⟨W.heap.size, 10, none⟩ = some (.int .i64 c.fs) ∧ w'.cell? ⟨W.heap.size, 11, none⟩ = some (.int .i64 c.fw) ∧ w'.cell? ⟨W.heap.size, 12, none⟩ = some (.int .i64 c.fr) ∧ w'.cell? ⟨W.heap.size, 13, none⟩ = some (.int .i64 c.fd) ∧ w'.cell? ⟨W.heap.size, 14, none⟩ = some (.int .i64 c.fee) ∧ w'.cell? ⟨W.heap.size, 15, none⟩ = some (.int .i64 c.dl)) := Lib.hid fun w' hb => ⟨keepc hb (by simp [cellsC, go_sem]), keepc hb (by simp [cellsC, go_sem]), keepc hb (by simp [cellsC, go_sem]), keepc hb (by simp [cellsC, go_sem, hle]), keepc hb (by simp [cellsC, go_sem]), keepc hb (by simp [cellsC, go_sem]), keepc hb (by simp [cellsC, go_sem]), keepc hb (by simp [cellsC, go_sem]), keepc hb (by simp [cellsC, go_sem]), keepc hb (by simp [cellsC, go_sem]), keepc hb (by simp [cellsC, go_sem]), keepc hb (by simp [cellsC, go_sem]), keepc hb (by simp [cellsC, go_sem]), keepc hb (by simp [cellsC, go_sem]), keepc hb (by simp [cellsC, go_sem]), keepc hb (by simp [cellsC, go_sem])⟩
  obtain ⟨bpm, offpm, hbpm, hcpm⟩ := h.mats
  have HE1 : Hid (∀ w', Below (W.alloc (.cells (cellsC c x).toArray 33)).heap.size (W.alloc (.cells (cellsC c x).toArray 33)) w' → ∀ j (h : j < c.mats.length), x.pm = some ⟨bpm, offpm, none⟩ ∧ w'.cell? ⟨bpm, offpm + j * 2 + 1, none⟩ = some (.int .i64 c.mats[j].k)) := Lib.hid fun w' hb j hj => ⟨(hbpm.hb (by omega)).1, keepc (HQ w' hb) (hcpm j hj 1 _ rfl)⟩
  obtain ⟨bpl, offpl, hbpl, hcpl⟩ := h.legs
  have HE2 : Hid (∀ w', Below (W.alloc (.cells (cellsC c x).toArray 33)).heap.size (W.alloc (.cells (cellsC c x).toArray 33)) w' → ∀ j (h : j < c.legs.length), x.pl = some ⟨bpl, offpl, none⟩ ∧ w'.cell? ⟨bpl, offpl + j * 4, none⟩ = some (.int .i64 c.legs[j].f) ∧ w'.cell? ⟨bpl, offpl + j * 4 + 1, none⟩ = some (.int .i64 c.legs[j].t) ∧ w'.cell? ⟨bpl, offpl + j * 4 + 2, none⟩ = some (.int .i64 c.legs[j].mi) ∧ w'.cell? ⟨bpl, offpl + j * 4 + 3, none⟩ = some (.int .i64 c.legs[j].ma)) := Lib.hid fun w' hb j hj => ⟨(hbpl.hb (by omega)).1, keepc (HQ w' hb) (hcpl j hj 0 _ rfl), keepc (HQ w' hb) (hcpl j hj 1 _ rfl), keepc (HQ w' hb) (hcpl j hj 2 _ rfl), keepc (HQ w' hb) (hcpl j hj 3 _ rfl)⟩
  obtain ⟨bpw, offpw, hbpw, hcpw⟩ := h.waves
  have HE4 : Hid (∀ w', Below (W.alloc (.cells (cellsC c x).toArray 33)).heap.size (W.alloc (.cells (cellsC c x).toArray 33)) w' → ∀ j (h : j < c.waves.length), x.pw = some ⟨bpw, offpw, none⟩ ∧ w'.cell? ⟨bpw, offpw + j * 2 + 1, none⟩ = some (.int .i64 c.waves[j].g)) := Lib.hid fun w' hb j hj => ⟨(hbpw.hb (by omega)).1, keepc (HQ w' hb) (hcpw j hj 1 _ rfl)⟩
  obtain ⟨bpo, offpo, hbpo, hcpo⟩ := h.offs
  have HE5 : Hid (∀ w', Below (W.alloc (.cells (cellsC c x).toArray 33)).heap.size (W.alloc (.cells (cellsC c x).toArray 33)) w' → ∀ j (h : j < c.offs.length), x.po = some ⟨bpo, offpo, none⟩ ∧ w'.cell? ⟨bpo, offpo + j * 4, none⟩ = some (.string c.offs[j].n) ∧ w'.cell? ⟨bpo, offpo + j * 4 + 1, none⟩ = some (.int .i64 c.offs[j].t) ∧ w'.cell? ⟨bpo, offpo + j * 4 + 2, none⟩ = some (.int .i64 c.offs[j].l) ∧ w'.cell? ⟨bpo, offpo + j * 4 + 3, none⟩ = some (.bool c.offs[j].o)) := Lib.hid fun w' hb j hj => ⟨(hbpo.hb (by omega)).1, keepc (HQ w' hb) (hcpo j hj 0 _ rfl), keepc (HQ w' hb) (hcpo j hj 1 _ rfl), keepc (HQ w' hb) (hcpo j hj 2 _ rfl), keepc (HQ w' hb) (hcpo j hj 3 _ rfl)⟩
  obtain ⟨bpc, offpc, hbpc, hcpc⟩ := h.cats
  have HE6 : Hid (∀ w', Below (W.alloc (.cells (cellsC c x).toArray 33)).heap.size (W.alloc (.cells (cellsC c x).toArray 33)) w' → ∀ j (h : j < c.cats.length), x.pc = some ⟨bpc, offpc, none⟩ ∧ w'.cell? ⟨bpc, offpc + j * 3, none⟩ = some (.string c.cats[j].n) ∧ w'.cell? ⟨bpc, offpc + j * 3 + 1, none⟩ = some (.int .i64 c.cats[j].f) ∧ w'.cell? ⟨bpc, offpc + j * 3 + 2, none⟩ = some (.int .i64 c.cats[j].t)) := Lib.hid fun w' hb j hj => ⟨(hbpc.hb (by omega)).1, keepc (HQ w' hb) (hcpc j hj 0 _ rfl), keepc (HQ w' hb) (hcpc j hj 1 _ rfl), keepc (HQ w' hb) (hcpc j hj 2 _ rfl)⟩
  obtain ⟨bpz, offpz, hbpz, hcpz⟩ := h.prizes
  have HE7 : Hid (∀ w', Below (W.alloc (.cells (cellsC c x).toArray 33)).heap.size (W.alloc (.cells (cellsC c x).toArray 33)) w' → ∀ j (h : j < c.prizes.length), x.pz = some ⟨bpz, offpz, none⟩ ∧ w'.cell? ⟨bpz, offpz + j * 4, none⟩ = some (.int .i64 c.prizes[j].d) ∧ w'.cell? ⟨bpz, offpz + j * 4 + 1, none⟩ = some (.int .i64 c.prizes[j].c) ∧ w'.cell? ⟨bpz, offpz + j * 4 + 2, none⟩ = some (.int .i64 c.prizes[j].r) ∧ w'.cell? ⟨bpz, offpz + j * 4 + 3, none⟩ = some (.int .i64 c.prizes[j].a)) := Lib.hid fun w' hb j hj => ⟨(hbpz.hb (by omega)).1, keepc (HQ w' hb) (hcpz j hj 0 _ rfl), keepc (HQ w' hb) (hcpz j hj 1 _ rfl), keepc (HQ w' hb) (hcpz j hj 2 _ rfl), keepc (HQ w' hb) (hcpz j hj 3 _ rfl)⟩
  have HE3 : Hid (∀ w', Below (W.alloc (.cells (cellsC c x).toArray 33)).heap.size (W.alloc (.cells (cellsC c x).toArray 33)) w' → ∀ j (h : j < es.length), x.pd = some ⟨b3, off3, none⟩ ∧ w'.cell? ⟨b3, off3 + j * 5, none⟩ = some (.string es[j].1.n) ∧ w'.cell? ⟨b3, off3 + j * 5 + 1, none⟩ = some (.slice es[j].2.pr es[j].1.r.length es[j].2.cr) ∧ w'.cell? ⟨b3, off3 + j * 5 + 2, none⟩ = some (.int .i64 es[j].1.t) ∧ w'.cell? ⟨b3, off3 + j * 5 + 3, none⟩ = some (.slice es[j].2.pc es[j].1.cs.length es[j].2.cc) ∧ w'.cell? ⟨b3, off3 + j * 5 + 4, none⟩ = some (.int .i64 es[j].1.x)) := Lib.hid fun w' hb j hj => ⟨(hb3.hb (by omega)).1, keepc (HQ w' hb) (hc3 j hj 0 _ rfl), keepc (HQ w' hb) (hc3 j hj 1 _ rfl), keepc (HQ w' hb) (hc3 j hj 2 _ rfl), keepc (HQ w' hb) (hc3 j hj 3 _ rfl), keepc (HQ w' hb) (hc3 j hj 4 _ rfl)⟩
  have ND : Hid (∀ j (h : j < es.length) V, Below (W.alloc (.cells (cellsC c x).toArray 33)).heap.size (W.alloc (.cells (cellsC c x).toArray 33)) V → Calls Tryz.prog 99 #[.agg #[.string c.n, .slice x.pm c.mats.length x.cm, .slice x.pl c.legs.length x.cl, .slice x.pd es.length x.cd, .slice x.pw c.waves.length x.cw, .slice x.po c.offs.length x.co, .slice x.pc c.cats.length x.cc, .slice x.pz c.prizes.length x.cz, .slice x.pt c.ties.length x.ct, .int .i64 c.fm, .int .i64 c.fs, .int .i64 c.fw, .int .i64 c.fr, .int .i64 c.fd, .int .i64 c.fee, .int .i64 c.dl], distV es[j].1 es[j].2] V fun e w' => e = .returned (.bool (distR c.mats.length es[j].1)) ∧ Below V.heap.size V w') := Lib.hid fun j hj V hV => by
    have := rdist_any c x (by omega) (hdi j hj) V (HQ V hV)
    unfold courseV cellsC at this
    rw [hle] at this
    exact this
  have NM : Hid (∀ a V, Calls Tryz.prog 98 #[.agg (cellsC c x).toArray, .int .i64 a] V fun e w' => e = .returned (.bool (inI 0 ((c.mats.length : Int) - 1) a)) ∧ Below V.heap.size V w') := Lib.hid fun a V => rmat_any c x a (by omega) V
  have hCs : (cellsC c x).toArray.size = 16 := rfl
  have HLd : Hid (∀ w', Below (W.alloc (.cells (cellsC c x).toArray 33)).heap.size (W.alloc (.cells (cellsC c x).toArray 33)) w' → (Instr.loadAt 33 (.pointer (some ⟨W.heap.size, 0, none⟩))).run Tryz.prog w' = .ok (.agg (cellsC c x).toArray) w' ∧ True) := Lib.hid fun w' hb => ⟨ld_keep hCs hb, trivial⟩
  have NI : Hid (∀ a lo hi W, Calls Tryz.prog 97 #[.int .i64 a, .int .i64 lo, .int .i64 hi] W fun e w' => e = .returned (.bool (inI lo hi a)) ∧ Below W.heap.size W w') := Lib.hid fun a lo hi W => rbet_any a lo hi W
  have HB0 := Lib.hid (Below.refl (W.alloc (.cells (cellsC c x).toArray 33)).heap.size (W.alloc (.cells (cellsC c x).toArray 33)))
  clear hT hA h hW HQ hdi hes hal hb3 hc3 hbpm hcpm hbpl hcpl hbpw hcpw hbpo hcpo hbpc hcpc hbpz hcpz hCs
  unfold courseV at *
  rw [hle] at l3
  clear hle
  generalize (cellsC c x).toArray = cs at *
  go_enter Tryz.func43, Tryz.ntmps43
  go_upto_block 0 with (fail)
  refine rqA_any (A := (W.alloc (.cells cs 33))) (B := W.heap.size) _ (by omega) (Lib.hid fun w' hb => (HCells.out w' hb).2.1) HE1 ?hQ ?hR HB0
  case hR =>
    intro _ _ _ _ _ _ _ _ _ _ _ _ _ _ _ _ w9 hq HB9
    have hT : T = false := by rw [HT.out, hq]; rfl
    subst hT
    go_ret
    exact ⟨rfl, HWW.out _ HB9.out⟩
  case hQ =>
    intro _ _ _ _ _ _ _ _ _ _ _ _ _ _ _ _ _ w1 hq0 HB1
    go_upto_block 2 with (fail)
    refine rqE_any (A := (W.alloc (.cells cs 33))) (B := W.heap.size) _ (by omega) NM HLd (Lib.hid fun w' hb => (HCells.out w' hb).2.2.1) HE2 ?hQ ?hR HB1
    case hR =>
      intro _ _ _ _ _ _ _ _ _ _ _ _ _ _ _ _ _ _ _ _ _ _ _ _ _ _ _ _ _ _ _ _ _ _ _ _ _ _ _ _ _ _ _ _ _ _ _ _ _ _ _ _ _ _ _ _ _ _ _ _ _ _ _ _ _ _ _ _ _ w9 hq HB9
      have hT : T = false := by rw [HT.out, hq0, hq]; rfl
      subst hT
      go_ret
      exact ⟨rfl, HWW.out _ HB9.out⟩
    case hQ =>
      intro _ _ _ _ _ _ _ _ _ _ _ _ _ _ _ _ _ _ _ _ _ _ _ _ _ _ _ _ _ _ _ _ _ _ _ _ _ _ _ _ _ _ _ _ _ _ _ _ _ _ _ _ _ _ _ _ _ _ _ _ _ _ _ _ _ _ _ _ _ _ w2 hq1 HB2
      go_upto_block 6 with (fail)
      refine rqG_any (A := (W.alloc (.cells cs 33))) (B := W.heap.size) _ (by omega) ND HCells (Lib.hid fun w' hb => (HCells.out w' hb).2.2.2.1) HE3 ?hQ ?hR HB2
      case hR =>
        intro _ _ _ _ _ _ _ _ _ _ _ _ _ _ _ _ w9 hq HB9
        have hT : T = false := by rw [HT.out, hq0, hq1, hq]; rfl
        subst hT
        go_ret
        exact ⟨rfl, HWW.out _ HB9.out⟩
      case hQ =>
        intro _ _ _ _ _ _ _ _ _ _ _ _ _ _ _ _ _ w3 hq2 HB3
        go_upto_block 8 with (fail)
        refine rqB_any (A := (W.alloc (.cells cs 33))) (B := W.heap.size) _ (by omega) (Lib.hid fun w' hb => (HCells.out w' hb).2.2.2.2.1) HE4 ?hQ ?hR HB3
        case hR =>
          intro _ _ _ _ _ _ _ _ _ _ _ _ _ _ _ _ w9 hq HB9
          have hT : T = false := by rw [HT.out, hq0, hq1, hq2, hq]; rfl
          subst hT
          go_ret
          exact ⟨rfl, HWW.out _ HB9.out⟩
        case hQ =>
          intro _ _ _ _ _ _ _ _ _ _ _ _ _ _ _ _ _ w4 hq3 HB4
          go_upto_block 10 with (fail)
          refine rqD_any (A := (W.alloc (.cells cs 33))) (B := W.heap.size) _ (by omega) (Lib.hid fun w' hb => (HCells.out w' hb).2.2.2.2.2.1) HE5 ?hQ ?hR HB4
          case hR =>
            intro _ _ _ _ _ _ _ _ _ _ _ _ _ _ _ _ _ _ _ _ _ _ _ _ _ _ _ _ _ _ _ _ _ _ _ _ _ _ _ _ _ _ _ _ _ _ _ _ _ _ _ _ _ _ _ _ _ _ _ _ _ _ _ _ _ w9 hq HB9
            have hT : T = false := by rw [HT.out, hq0, hq1, hq2, hq3, hq]; rfl
            subst hT
            go_ret
            exact ⟨rfl, HWW.out _ HB9.out⟩
          case hQ =>
            intro _ _ _ _ _ _ _ _ _ _ _ _ _ _ _ _ _ _ _ _ _ _ _ _ _ _ _ _ _ _ _ _ _ _ _ _ _ _ _ _ _ _ _ _ _ _ _ _ _ _ _ _ _ _ _ _ _ _ _ _ _ _ _ _ _ _ w5 hq4 HB5
            go_upto_block 12 with (fail)
            refine rqC_any (A := (W.alloc (.cells cs 33))) (B := W.heap.size) _ (by omega) (Lib.hid fun w' hb => (HCells.out w' hb).2.2.2.2.2.2.1) HE6 ?hQ ?hR HB5
            case hR =>
              intro _ _ _ _ _ _ _ _ _ _ _ _ _ _ _ _ _ _ _ _ _ _ _ _ _ _ _ _ _ w9 hq HB9
              have hT : T = false := by rw [HT.out, hq0, hq1, hq2, hq3, hq4, hq]; rfl
              subst hT
              go_ret
              exact ⟨rfl, HWW.out _ HB9.out⟩
            case hQ =>
              intro _ _ _ _ _ _ _ _ _ _ _ _ _ _ _ _ _ _ _ _ _ _ _ _ _ _ _ _ _ _ w6 hq5 HB6
              go_upto_block 14 with (fail)
              refine rqF_any (A := (W.alloc (.cells cs 33))) (B := W.heap.size) (nd := es.length) (nc := c.cats.length) _ (by omega) (by omega) (by omega) (Lib.hid fun w' hb => ⟨(HCells.out w' hb).2.2.2.2.2.2.2.1, (HCells.out w' hb).2.2.2.1, (HCells.out w' hb).2.2.2.2.2.2.1⟩) HE7 ?hQ ?hR HB6
              case hR =>
                intro _ _ _ _ _ _ _ _ _ _ _ _ _ _ _ _ _ _ _ _ _ _ _ _ _ _ _ _ _ _ _ _ _ _ _ _ _ _ _ _ _ _ _ _ _ _ _ _ _ _ _ _ _ _ _ _ _ _ _ _ _ _ _ _ _ _ _ _ _ _ _ _ _ _ _ w9 hq HB9
                have hT : T = false := by rw [HT.out, hq0, hq1, hq2, hq3, hq4, hq5, hq]; rfl
                subst hT
                go_ret
                exact ⟨rfl, HWW.out _ HB9.out⟩
              case hQ =>
                intro _ _ _ _ _ _ _ _ _ _ _ _ _ _ _ _ _ _ _ _ _ _ _ _ _ _ _ _ _ _ _ _ _ _ _ _ _ _ _ _ _ _ _ _ _ _ _ _ _ _ _ _ _ _ _ _ _ _ _ _ _ _ _ _ _ _ _ _ _ _ _ _ _ _ _ _ w7 hq6 HB7
                have hI := HT.out
                rw [hq0, hq1, hq2, hq3, hq4, hq5, hq6] at hI
                simp only [Bool.true_and] at hI
                have HCC := HCells
                clear HT hq0 hq1 hq2 hq3 hq4 hq5 hq6 HE1 HE2 HE3 HE4 HE5 HE6 HE7 ND NM HLd HB0 HB1 HB2 HB3 HB4 HB5 HB6
                obtain ⟨-, -, -, -, -, -, -, -, -, f9, f10, f11, f12, f13, f14, f15⟩ := HCells.out _ HB7.out
                have HBA := Lib.hid (HB7.out.alloc HB7.out.size (.cells #[.int .i64 c.fm, .int .i64 c.fs, .int .i64 c.fw, .int .i64 c.fr, .int .i64 c.fd] 31))
                have HX : Hid (∀ V, V = w7.alloc (.cells #[.int .i64 c.fm, .int .i64 c.fs, .int .i64 c.fw, .int .i64 c.fr, .int .i64 c.fd] 31) → ∀ w', Below V.heap.size V w' → Below (W.alloc (.cells cs 33)).heap.size (W.alloc (.cells cs 33)) w' ∧ w'.cell? ⟨w7.heap.size, 1, none⟩ = some (.int .i64 c.fs) ∧ w'.cell? ⟨w7.heap.size, 2, none⟩ = some (.int .i64 c.fw) ∧ w'.cell? ⟨w7.heap.size, 3, none⟩ = some (.int .i64 c.fr) ∧ w'.cell? ⟨w7.heap.size, 4, none⟩ = some (.int .i64 c.fd)) := Lib.hid fun V e w' hb => by
                  subst e
                  exact ⟨HBA.out.trans (hb.mono HBA.out.size), keepc hb (by simp [go_sem]), keepc hb (by simp [go_sem]), keepc hb (by simp [go_sem]), keepc hb (by simp [go_sem])⟩
                have NP0 := Lib.hid (NI.out c.fm 0 16)
                have NP1 := Lib.hid (NI.out c.fs 0 16)
                have NP2 := Lib.hid (NI.out c.fw 0 4294967296)
                have NP3 := Lib.hid (NI.out c.fr 0 4294967296)
                have NP4 := Lib.hid (NI.out c.fd 0 100000)
                have NP5 := Lib.hid (NI.out c.fee 0 1125899906842624)
                have NP6 := Lib.hid (NI.out c.dl 0 1099511627776)
                obtain ⟨r0, hr0⟩ : ∃ q, inI 0 16 c.fm = q := ⟨_, rfl⟩
                rw [hr0] at NP0 hI
                clear hr0
                obtain ⟨r1, hr1⟩ : ∃ q, inI 0 16 c.fs = q := ⟨_, rfl⟩
                rw [hr1] at NP1 hI
                clear hr1
                obtain ⟨r2, hr2⟩ : ∃ q, inI 0 4294967296 c.fw = q := ⟨_, rfl⟩
                rw [hr2] at NP2 hI
                clear hr2
                obtain ⟨r3, hr3⟩ : ∃ q, inI 0 4294967296 c.fr = q := ⟨_, rfl⟩
                rw [hr3] at NP3 hI
                clear hr3
                obtain ⟨r4, hr4⟩ : ∃ q, inI 0 100000 c.fd = q := ⟨_, rfl⟩
                rw [hr4] at NP4 hI
                clear hr4
                obtain ⟨r5, hr5⟩ : ∃ q, inI 0 1125899906842624 c.fee = q := ⟨_, rfl⟩
                rw [hr5] at NP5 hI
                clear hr5
                obtain ⟨r6, hr6⟩ : ∃ q, inI 0 1099511627776 c.dl = q := ⟨_, rfl⟩
                rw [hr6] at NP6 hI
                clear hr6
                clear NI HCells
                cases r0 with
                | false =>
                  have hT : T = false := by rw [hI]; rfl
                  subst hT
                  clear hI
                  go_wp2_with (first
                    | go_skip
                    | (go_at_call 97; (with_reducible refine (NP0.out _).mono ?_); rintro e v0 ⟨rfl, hb⟩; have hv0 := hb; obtain ⟨hc0, x0_1, x0_2, x0_3, x0_4⟩ := HX.out _ rfl v0 hv0; have HC0 := Lib.hid hc0; obtain ⟨-, -, -, -, -, -, -, -, -, -, -, -, -, -, g0_14, g0_15⟩ := HCC.out _ hc0; clear hb hc0))
                  go_ret
                  exact ⟨rfl, HWW.out _ HC0.out⟩
                | true =>
                  cases r1 with
                  | false =>
                    have hT : T = false := by rw [hI]; rfl
                    subst hT
                    clear hI
                    go_wp2_with (first
                      | go_skip
                      | (go_at_call 97; (with_reducible refine (NP0.out _).mono ?_); rintro e v0 ⟨rfl, hb⟩; have hv0 := hb; obtain ⟨hc0, x0_1, x0_2, x0_3, x0_4⟩ := HX.out _ rfl v0 hv0; have HC0 := Lib.hid hc0; obtain ⟨-, -, -, -, -, -, -, -, -, -, -, -, -, -, g0_14, g0_15⟩ := HCC.out _ hc0; clear hb hc0)
                      | (go_at_call 97; (with_reducible refine (NP1.out _).mono ?_); rintro e v1 ⟨rfl, hb⟩; have hv1 := hv0.trans (hb.mono hv0.size); obtain ⟨hc1, x1_1, x1_2, x1_3, x1_4⟩ := HX.out _ rfl v1 hv1; have HC1 := Lib.hid hc1; obtain ⟨-, -, -, -, -, -, -, -, -, -, -, -, -, -, g1_14, g1_15⟩ := HCC.out _ hc1; clear hb hc1))
                    go_ret
                    exact ⟨rfl, HWW.out _ HC1.out⟩
                  | true =>
                    cases r2 with
                    | false =>
                      have hT : T = false := by rw [hI]; rfl
                      subst hT
                      clear hI
                      go_wp2_with (first
                        | go_skip
                        | (go_at_call 97; (with_reducible refine (NP0.out _).mono ?_); rintro e v0 ⟨rfl, hb⟩; have hv0 := hb; obtain ⟨hc0, x0_1, x0_2, x0_3, x0_4⟩ := HX.out _ rfl v0 hv0; have HC0 := Lib.hid hc0; obtain ⟨-, -, -, -, -, -, -, -, -, -, -, -, -, -, g0_14, g0_15⟩ := HCC.out _ hc0; clear hb hc0)
                        | (go_at_call 97; (with_reducible refine (NP1.out _).mono ?_); rintro e v1 ⟨rfl, hb⟩; have hv1 := hv0.trans (hb.mono hv0.size); obtain ⟨hc1, x1_1, x1_2, x1_3, x1_4⟩ := HX.out _ rfl v1 hv1; have HC1 := Lib.hid hc1; obtain ⟨-, -, -, -, -, -, -, -, -, -, -, -, -, -, g1_14, g1_15⟩ := HCC.out _ hc1; clear hb hc1)
                        | (go_at_call 97; (with_reducible refine (NP2.out _).mono ?_); rintro e v2 ⟨rfl, hb⟩; have hv2 := hv1.trans (hb.mono hv1.size); obtain ⟨hc2, x2_1, x2_2, x2_3, x2_4⟩ := HX.out _ rfl v2 hv2; have HC2 := Lib.hid hc2; obtain ⟨-, -, -, -, -, -, -, -, -, -, -, -, -, -, g2_14, g2_15⟩ := HCC.out _ hc2; clear hb hc2))
                      go_ret
                      exact ⟨rfl, HWW.out _ HC2.out⟩
                    | true =>
                      cases r3 with
                      | false =>
                        have hT : T = false := by rw [hI]; rfl
                        subst hT
                        clear hI
                        go_wp2_with (first
                          | go_skip
                          | (go_at_call 97; (with_reducible refine (NP0.out _).mono ?_); rintro e v0 ⟨rfl, hb⟩; have hv0 := hb; obtain ⟨hc0, x0_1, x0_2, x0_3, x0_4⟩ := HX.out _ rfl v0 hv0; have HC0 := Lib.hid hc0; obtain ⟨-, -, -, -, -, -, -, -, -, -, -, -, -, -, g0_14, g0_15⟩ := HCC.out _ hc0; clear hb hc0)
                          | (go_at_call 97; (with_reducible refine (NP1.out _).mono ?_); rintro e v1 ⟨rfl, hb⟩; have hv1 := hv0.trans (hb.mono hv0.size); obtain ⟨hc1, x1_1, x1_2, x1_3, x1_4⟩ := HX.out _ rfl v1 hv1; have HC1 := Lib.hid hc1; obtain ⟨-, -, -, -, -, -, -, -, -, -, -, -, -, -, g1_14, g1_15⟩ := HCC.out _ hc1; clear hb hc1)
                          | (go_at_call 97; (with_reducible refine (NP2.out _).mono ?_); rintro e v2 ⟨rfl, hb⟩; have hv2 := hv1.trans (hb.mono hv1.size); obtain ⟨hc2, x2_1, x2_2, x2_3, x2_4⟩ := HX.out _ rfl v2 hv2; have HC2 := Lib.hid hc2; obtain ⟨-, -, -, -, -, -, -, -, -, -, -, -, -, -, g2_14, g2_15⟩ := HCC.out _ hc2; clear hb hc2)
                          | (go_at_call 97; (with_reducible refine (NP3.out _).mono ?_); rintro e v3 ⟨rfl, hb⟩; have hv3 := hv2.trans (hb.mono hv2.size); obtain ⟨hc3, x3_1, x3_2, x3_3, x3_4⟩ := HX.out _ rfl v3 hv3; have HC3 := Lib.hid hc3; obtain ⟨-, -, -, -, -, -, -, -, -, -, -, -, -, -, g3_14, g3_15⟩ := HCC.out _ hc3; clear hb hc3))
                        go_ret
                        exact ⟨rfl, HWW.out _ HC3.out⟩
                      | true =>
                        cases r4 with
                        | false =>
                          have hT : T = false := by rw [hI]; rfl
                          subst hT
                          clear hI
                          go_wp2_with (first
                            | go_skip
                            | (go_at_call 97; (with_reducible refine (NP0.out _).mono ?_); rintro e v0 ⟨rfl, hb⟩; have hv0 := hb; obtain ⟨hc0, x0_1, x0_2, x0_3, x0_4⟩ := HX.out _ rfl v0 hv0; have HC0 := Lib.hid hc0; obtain ⟨-, -, -, -, -, -, -, -, -, -, -, -, -, -, g0_14, g0_15⟩ := HCC.out _ hc0; clear hb hc0)
                            | (go_at_call 97; (with_reducible refine (NP1.out _).mono ?_); rintro e v1 ⟨rfl, hb⟩; have hv1 := hv0.trans (hb.mono hv0.size); obtain ⟨hc1, x1_1, x1_2, x1_3, x1_4⟩ := HX.out _ rfl v1 hv1; have HC1 := Lib.hid hc1; obtain ⟨-, -, -, -, -, -, -, -, -, -, -, -, -, -, g1_14, g1_15⟩ := HCC.out _ hc1; clear hb hc1)
                            | (go_at_call 97; (with_reducible refine (NP2.out _).mono ?_); rintro e v2 ⟨rfl, hb⟩; have hv2 := hv1.trans (hb.mono hv1.size); obtain ⟨hc2, x2_1, x2_2, x2_3, x2_4⟩ := HX.out _ rfl v2 hv2; have HC2 := Lib.hid hc2; obtain ⟨-, -, -, -, -, -, -, -, -, -, -, -, -, -, g2_14, g2_15⟩ := HCC.out _ hc2; clear hb hc2)
                            | (go_at_call 97; (with_reducible refine (NP3.out _).mono ?_); rintro e v3 ⟨rfl, hb⟩; have hv3 := hv2.trans (hb.mono hv2.size); obtain ⟨hc3, x3_1, x3_2, x3_3, x3_4⟩ := HX.out _ rfl v3 hv3; have HC3 := Lib.hid hc3; obtain ⟨-, -, -, -, -, -, -, -, -, -, -, -, -, -, g3_14, g3_15⟩ := HCC.out _ hc3; clear hb hc3)
                            | (go_at_call 97; (with_reducible refine (NP4.out _).mono ?_); rintro e v4 ⟨rfl, hb⟩; have hv4 := hv3.trans (hb.mono hv3.size); obtain ⟨hc4, x4_1, x4_2, x4_3, x4_4⟩ := HX.out _ rfl v4 hv4; have HC4 := Lib.hid hc4; obtain ⟨-, -, -, -, -, -, -, -, -, -, -, -, -, -, g4_14, g4_15⟩ := HCC.out _ hc4; clear hb hc4))
                          go_ret
                          exact ⟨rfl, HWW.out _ HC4.out⟩
                        | true =>
                          cases r5 with
                          | false =>
                            have hT : T = false := by rw [hI]; rfl
                            subst hT
                            clear hI
                            go_wp2_with (first
                              | go_skip
                              | (go_at_call 97; (with_reducible refine (NP0.out _).mono ?_); rintro e v0 ⟨rfl, hb⟩; have hv0 := hb; obtain ⟨hc0, x0_1, x0_2, x0_3, x0_4⟩ := HX.out _ rfl v0 hv0; have HC0 := Lib.hid hc0; obtain ⟨-, -, -, -, -, -, -, -, -, -, -, -, -, -, g0_14, g0_15⟩ := HCC.out _ hc0; clear hb hc0)
                              | (go_at_call 97; (with_reducible refine (NP1.out _).mono ?_); rintro e v1 ⟨rfl, hb⟩; have hv1 := hv0.trans (hb.mono hv0.size); obtain ⟨hc1, x1_1, x1_2, x1_3, x1_4⟩ := HX.out _ rfl v1 hv1; have HC1 := Lib.hid hc1; obtain ⟨-, -, -, -, -, -, -, -, -, -, -, -, -, -, g1_14, g1_15⟩ := HCC.out _ hc1; clear hb hc1)
                              | (go_at_call 97; (with_reducible refine (NP2.out _).mono ?_); rintro e v2 ⟨rfl, hb⟩; have hv2 := hv1.trans (hb.mono hv1.size); obtain ⟨hc2, x2_1, x2_2, x2_3, x2_4⟩ := HX.out _ rfl v2 hv2; have HC2 := Lib.hid hc2; obtain ⟨-, -, -, -, -, -, -, -, -, -, -, -, -, -, g2_14, g2_15⟩ := HCC.out _ hc2; clear hb hc2)
                              | (go_at_call 97; (with_reducible refine (NP3.out _).mono ?_); rintro e v3 ⟨rfl, hb⟩; have hv3 := hv2.trans (hb.mono hv2.size); obtain ⟨hc3, x3_1, x3_2, x3_3, x3_4⟩ := HX.out _ rfl v3 hv3; have HC3 := Lib.hid hc3; obtain ⟨-, -, -, -, -, -, -, -, -, -, -, -, -, -, g3_14, g3_15⟩ := HCC.out _ hc3; clear hb hc3)
                              | (go_at_call 97; (with_reducible refine (NP4.out _).mono ?_); rintro e v4 ⟨rfl, hb⟩; have hv4 := hv3.trans (hb.mono hv3.size); obtain ⟨hc4, x4_1, x4_2, x4_3, x4_4⟩ := HX.out _ rfl v4 hv4; have HC4 := Lib.hid hc4; obtain ⟨-, -, -, -, -, -, -, -, -, -, -, -, -, -, g4_14, g4_15⟩ := HCC.out _ hc4; clear hb hc4)
                              | (go_at_call 97; (with_reducible refine (NP5.out _).mono ?_); rintro e v5 ⟨rfl, hb⟩; have hv5 := hv4.trans (hb.mono hv4.size); obtain ⟨hc5, x5_1, x5_2, x5_3, x5_4⟩ := HX.out _ rfl v5 hv5; have HC5 := Lib.hid hc5; obtain ⟨-, -, -, -, -, -, -, -, -, -, -, -, -, -, g5_14, g5_15⟩ := HCC.out _ hc5; clear hb hc5))
                            go_ret
                            exact ⟨rfl, HWW.out _ HC5.out⟩
                          | true =>
                            have hT : T = r6 := by rw [hI]; rfl
                            subst hT
                            clear hI
                            go_wp2_with (first
                              | go_skip
                              | (go_at_call 97; (with_reducible refine (NP0.out _).mono ?_); rintro e v0 ⟨rfl, hb⟩; have hv0 := hb; obtain ⟨hc0, x0_1, x0_2, x0_3, x0_4⟩ := HX.out _ rfl v0 hv0; have HC0 := Lib.hid hc0; obtain ⟨-, -, -, -, -, -, -, -, -, -, -, -, -, -, g0_14, g0_15⟩ := HCC.out _ hc0; clear hb hc0)
                              | (go_at_call 97; (with_reducible refine (NP1.out _).mono ?_); rintro e v1 ⟨rfl, hb⟩; have hv1 := hv0.trans (hb.mono hv0.size); obtain ⟨hc1, x1_1, x1_2, x1_3, x1_4⟩ := HX.out _ rfl v1 hv1; have HC1 := Lib.hid hc1; obtain ⟨-, -, -, -, -, -, -, -, -, -, -, -, -, -, g1_14, g1_15⟩ := HCC.out _ hc1; clear hb hc1)
                              | (go_at_call 97; (with_reducible refine (NP2.out _).mono ?_); rintro e v2 ⟨rfl, hb⟩; have hv2 := hv1.trans (hb.mono hv1.size); obtain ⟨hc2, x2_1, x2_2, x2_3, x2_4⟩ := HX.out _ rfl v2 hv2; have HC2 := Lib.hid hc2; obtain ⟨-, -, -, -, -, -, -, -, -, -, -, -, -, -, g2_14, g2_15⟩ := HCC.out _ hc2; clear hb hc2)
                              | (go_at_call 97; (with_reducible refine (NP3.out _).mono ?_); rintro e v3 ⟨rfl, hb⟩; have hv3 := hv2.trans (hb.mono hv2.size); obtain ⟨hc3, x3_1, x3_2, x3_3, x3_4⟩ := HX.out _ rfl v3 hv3; have HC3 := Lib.hid hc3; obtain ⟨-, -, -, -, -, -, -, -, -, -, -, -, -, -, g3_14, g3_15⟩ := HCC.out _ hc3; clear hb hc3)
                              | (go_at_call 97; (with_reducible refine (NP4.out _).mono ?_); rintro e v4 ⟨rfl, hb⟩; have hv4 := hv3.trans (hb.mono hv3.size); obtain ⟨hc4, x4_1, x4_2, x4_3, x4_4⟩ := HX.out _ rfl v4 hv4; have HC4 := Lib.hid hc4; obtain ⟨-, -, -, -, -, -, -, -, -, -, -, -, -, -, g4_14, g4_15⟩ := HCC.out _ hc4; clear hb hc4)
                              | (go_at_call 97; (with_reducible refine (NP5.out _).mono ?_); rintro e v5 ⟨rfl, hb⟩; have hv5 := hv4.trans (hb.mono hv4.size); obtain ⟨hc5, x5_1, x5_2, x5_3, x5_4⟩ := HX.out _ rfl v5 hv5; have HC5 := Lib.hid hc5; obtain ⟨-, -, -, -, -, -, -, -, -, -, -, -, -, -, g5_14, g5_15⟩ := HCC.out _ hc5; clear hb hc5)
                              | (go_at_call 97; (with_reducible refine (NP6.out _).mono ?_); rintro e v6 ⟨rfl, hb⟩; have hv6 := hv5.trans (hb.mono hv5.size); obtain ⟨hc6, x6_1, x6_2, x6_3, x6_4⟩ := HX.out _ rfl v6 hv6; have HC6 := Lib.hid hc6; obtain ⟨-, -, -, -, -, -, -, -, -, -, -, -, -, -, g6_14, g6_15⟩ := HCC.out _ hc6; clear hb hc6))
                            go_ret
                            exact ⟨rfl, HWW.out _ HC6.out⟩
end Go.Proofs.YtabdgnigmlpeaaaGreatDoor
