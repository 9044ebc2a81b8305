/- The specification's comparison of conditions and steps: equal ones. -/
import Derived.Test.YtdhdjfkknfbmhaaGreatDoorSCells
import Derived.Deep.QuietTactic
import Derived.Deep.DeepCutAuto
import Derived.Deep.RegionLaw
import Derived.Deep.RegionHeld3
import Derived.Test.YtdhdjfkknfbmhaaGreatDoorSSt
namespace Go.Proofs.YtdhdjfkknfbmhaaGreatDoor
open Go.RowKit

set_option maxHeartbeats 4000000 in
set_option maxRecDepth 100000 in
theorem sameCond_any {w0 : World} {Q : Nat → Prop} {c : Cd} {p : Option Addr} {cap : Nat} (h : CdIn w0 Q c p cap) : ∀ (w : World), Below w0.heap.size w0 w → ∀ (Q' : Nat → Prop) (p' : Option Addr) (cap' : Nat), CdIn w Q' c p' cap' →
    Calls Tryz.prog 17 #[cV c p cap, cV c p' cap'] w fun e w' => e = .returned (.bool true) ∧ Below w.heap.size w w' := by
  induction h with
  | mk k v n ps p cap b off P C hl hc hc2 hp hb hcell hsub ih =>
    intro w hw Q' p' cap' h2
    cases h2 with
    | mk _ _ _ _ _ _ b' off' P' C' hl' hcx hc2' hp' hb' hcell' hsub' =>
      have hw' := hw.size
      have HB : Hid (∀ o o', Below w.heap.size w ((w.alloc o).alloc o')) := Lib.hid fun o o' => ((Below.refl w.heap.size w).alloc (Nat.le_refl _) o).alloc (by simp) o'
      have HX : Hid (∀ j (hj : j < ps.length) wr, Below w.heap.size w wr → (p = some ⟨b, off, none⟩ ∧ wr.cell? ⟨b, off + j * 4, none⟩ = some (.int .i64 ps[j].k) ∧ wr.cell? ⟨b, off + j * 4 + 1, none⟩ = some (.int .i64 ps[j].v) ∧ wr.cell? ⟨b, off + j * 4 + 2, none⟩ = some (.int .i64 ps[j].n) ∧ wr.cell? ⟨b, off + j * 4 + 3, none⟩ = some (.slice (P j) ps[j].ps.length (C j))) ∧
          (p' = some ⟨b', off', none⟩ ∧ wr.cell? ⟨b', off' + j * 4, none⟩ = some (.int .i64 ps[j].k) ∧ wr.cell? ⟨b', off' + j * 4 + 1, none⟩ = some (.int .i64 ps[j].v) ∧ wr.cell? ⟨b', off' + j * 4 + 2, none⟩ = some (.int .i64 ps[j].n) ∧ wr.cell? ⟨b', off' + j * 4 + 3, none⟩ = some (.slice (P' j) ps[j].ps.length (C' j)))) := Lib.hid fun j hj wr hr => by
        have hne : ps ≠ [] := by rintro rfl; simp at hj
        obtain ⟨e1, _, l1⟩ := hb hne
        obtain ⟨e2, _, l2⟩ := hb' hne
        have c1 := fun o => (hr.cell (p := ⟨b, o, none⟩) (show b < w.heap.size by omega)).trans (hw.cell (p := ⟨b, o, none⟩) l1)
        have c2 := fun o => hr.cell (p := ⟨b', o, none⟩) l2
        obtain ⟨a0, a1, a2, a3⟩ := hcell j hj
        obtain ⟨d0, d1, d2, d3⟩ := hcell' j hj
        exact ⟨⟨e1, (c1 _).trans a0, (c1 _).trans a1, (c1 _).trans a2, (c1 _).trans a3⟩, e2, (c2 _).trans d0, (c2 _).trans d1, (c2 _).trans d2, (c2 _).trans d3⟩
      have HI : Hid (∀ j (hj : j < ps.length) wr, Below w.heap.size w wr → Calls Tryz.prog 17 #[cV ps[j] (P j) (C j), cV ps[j] (P' j) (C' j)] wr fun e w' => e = .returned (.bool true) ∧ Below wr.heap.size wr w') := Lib.hid fun j hj wr hr =>
        ih j hj wr (hw.trans (hr.mono hw')) Q' (P' j) (C' j) ((hsub' j hj).bel hr)
      clear hcell hsub ih hcell' hsub' hb hb'
      show Calls Tryz.prog 17 #[.agg #[.int .i64 k, .int .i64 v, .int .i64 n, .slice p ps.length cap], .agg #[.int .i64 k, .int .i64 v, .int .i64 n, .slice p' ps.length cap']] w _
      have HC : Hid (∀ wr, Below w.heap.size w wr → True) := Lib.hid fun _ _ => trivial
      have h1 := Cells.new w [.int .i64 k, .int .i64 v, .int .i64 n, .slice p ps.length cap] 49 (fun o => by simp [go_sem])
      have h3 := Cells.new (w.alloc (.cells #[.int .i64 k, .int .i64 v, .int .i64 n, .slice p ps.length cap] 49)) [.int .i64 k, .int .i64 v, .int .i64 n, .slice p' ps.length cap'] 49 (fun o => by simp [go_sem])
      rw [World.size_alloc] at h3
      have HK0 := Lib.hid (And.intro (HB.out (.cells #[.int .i64 k, .int .i64 v, .int .i64 n, .slice p ps.length cap] 49) (.cells #[.int .i64 k, .int .i64 v, .int .i64 n, .slice p' ps.length cap'] 49)) (And.intro (h1.bel ((Below.refl _ _).alloc (Nat.le_refl _) (.cells #[.int .i64 k, .int .i64 v, .int .i64 n, .slice p' ps.length cap'] 49))) h3))
      clear h1 h3 HC HB hw hw'
      go_enter Tryz.func17, Tryz.ntmps17
      go_wp2_with fail
      go_loopw [5] (fun i wr => ∃ j : Nat, j ≤ ps.length ∧ i = .int .i64 j ∧ Hid (Below w.heap.size w wr ∧ Cells wr w.heap.size [.int .i64 k, .int .i64 v, .int .i64 n, .slice p ps.length cap] ∧ Cells wr (w.heap.size + 1) [.int .i64 k, .int .i64 v, .int .i64 n, .slice p' ps.length cap'])) (fun i _ => ps.length - (intOf i).toNat)
      case atStart => exact ⟨0, Nat.zero_le _, rfl, HK0⟩
      case round =>
        obtain ⟨j, hj, rfl, HK⟩ := hrel
        clear HK0
        have x3 := HK.out.2.1.c 3 _ rfl
        have y3 := HK.out.2.2.c 3 _ rfl
        by_cases hlt : j < ps.length
        · obtain ⟨⟨rfl, a0, a1, a2, a3⟩, rfl, d0, d1, d2, d3⟩ := HX.out j hlt _ HK.out.1
          have HCC : Hid (∀ wd, Below wr.heap.size wr wd → Calls Tryz.prog 17 #[cV ps[j] (P j) (C j), cV ps[j] (P' j) (C' j)] wd fun e w' => e = .returned (.bool true) ∧ Below wr.heap.size wr w') := Lib.hid fun wd hd =>
            (HI.out j hlt wd (HK.out.1.trans (hd.mono HK.out.1.size))).mono fun e w' h => ⟨h.1, hd.trans (h.2.mono hd.size)⟩
          unfold cV at HCC
          clear HI HX
          generalize ps[j].k = q1 at *
          generalize ps[j].v = q2 at *
          generalize ps[j].n = q3 at *
          generalize ps[j].ps.length = q4 at *
          have wj1 : (j : Int) < (ps.length : Int) := by omega
          go_upto_region 6 with (fail)
          go_cut [52] from 34 to 52 (fun v wc => v = .bool false ∧ Hid (Below wr.heap.size wr wc))
          case first =>
            go_region_law (go_simp; go_at_call 17; refine (HCC.out _ (by first | exact Below.refl _ _ | exact (Below.refl _ _).drew | exact (Below.refl _ _).drew.drew)).mono ?_; rintro e w' ⟨rfl, hb'⟩)
            all_goals
              go_wp2_with fail
              go_meet
              exact ⟨rfl, Lib.hid hb'⟩
          case rest =>
            obtain ⟨rfl, HBC⟩ := hcut
            have HK3 := Lib.hid (And.intro (HK.out.1.trans (HBC.out.mono HK.out.1.size)) (And.intro (HK.out.2.1.bel HBC.out) (HK.out.2.2.bel HBC.out)))
            clear HBC HCC
            go_wp2_with fail
            go_round
            case rel => exact ⟨j + 1, by omega, by go_num, HK3⟩
            case measure => simp [intOf]; omega
        · go_wp2_with fail
          go_ret
          exact ⟨rfl, HK.out.1⟩
end Go.Proofs.YtdhdjfkknfbmhaaGreatDoor
/- The specification's comparison of steps: equal ones. -/
namespace Go.Proofs.YtdhdjfkknfbmhaaGreatDoor
open Go.RowKit

theorem heldS {a0 a1 a2 a3 a4 a5 a6 a7 b0 b1 b2 b3 b4 b5 b6 b7 : Prop} {W w' : World} (h : a0 ∧ a1 ∧ a2 ∧ a3 ∧ a4 ∧ a5 ∧ a6 ∧ a7 ∧ b0 ∧ b1 ∧ b2 ∧ b3 ∧ b4 ∧ b5 ∧ b6 ∧ b7 ∧ Hid (Below W.heap.size W w')) : Below W.heap.size W w' :=
  h.2.2.2.2.2.2.2.2.2.2.2.2.2.2.2.2.out

set_option maxHeartbeats 8000000 in
set_option maxRecDepth 100000 in
theorem sameSteps_any {w0 : World} {Q : Nat → Prop} {ss : List St} {p : Option Addr} {cap : Nat} (h : SsIn w0 Q ss p cap) : ∀ (w : World), Below w0.heap.size w0 w → ∀ (Q' : Nat → Prop) (p' : Option Addr) (cap' : Nat), SsIn w Q' ss p' cap' →
    Calls Tryz.prog 16 #[.slice p ss.length cap, .slice p' ss.length cap'] w fun e w' => e = .returned (.bool true) ∧ Below w.heap.size w w' := by
  induction h with
  | mk ss p cap b off X hl hc hc2 hp hb hcell hcd hth hel ih1 ih2 =>
    intro w hw Q' p' cap' h2
    cases h2 with
    | mk _ _ _ b' off' X' hl' hcx hc2' hp' hb' hcell' hcd' hth' hel' =>
      have hw' := hw.size
      have HX : Hid (∀ j (hj : j < ss.length) wr, Below w.heap.size w wr → (p = some ⟨b, off, none⟩ ∧ ∀ o u, (cellsS ss[j] (X j))[o]? = some u → wr.cell? ⟨b, off + j * 8 + o, none⟩ = some u) ∧ (p' = some ⟨b', off', none⟩ ∧ ∀ o u, (cellsS ss[j] (X' j))[o]? = some u → wr.cell? ⟨b', off' + j * 8 + o, none⟩ = some u)) := Lib.hid fun j hj wr hr => by
        have hne : ss ≠ [] := by rintro rfl; simp at hj
        obtain ⟨e1, _, l1⟩ := hb hne
        obtain ⟨e2, _, l2⟩ := hb' hne
        have c1 := fun o => (hr.cell (p := ⟨b, o, none⟩) (show b < w.heap.size by omega)).trans (hw.cell (p := ⟨b, o, none⟩) l1)
        have c2 := fun o => hr.cell (p := ⟨b', o, none⟩) l2
        exact ⟨⟨e1, fun o u hu => (c1 _).trans (hcell j hj o u hu)⟩, e2, fun o u hu => (c2 _).trans (hcell' j hj o u hu)⟩
      have HI1 : Hid (∀ j (hj : j < ss.length) wr, Below w.heap.size w wr → Calls Tryz.prog 16 #[.slice (X j).pt ss[j].th.length (X j).ct, .slice (X' j).pt ss[j].th.length (X' j).ct] wr fun e w' => e = .returned (.bool true) ∧ Below wr.heap.size wr w') := Lib.hid fun j hj wr hr =>
        ih1 j hj wr (hw.trans (hr.mono hw')) Q' _ _ ((hth' j hj).bel hr)
      have HI2 : Hid (∀ j (hj : j < ss.length) wr, Below w.heap.size w wr → Calls Tryz.prog 16 #[.slice (X j).pe ss[j].el.length (X j).ce, .slice (X' j).pe ss[j].el.length (X' j).ce] wr fun e w' => e = .returned (.bool true) ∧ Below wr.heap.size wr w') := Lib.hid fun j hj wr hr =>
        ih2 j hj wr (hw.trans (hr.mono hw')) Q' _ _ ((hel' j hj).bel hr)
      have HI0 : Hid (∀ j (hj : j < ss.length) wr, Below w.heap.size w wr → Calls Tryz.prog 17 #[cV ss[j].c (X j).pc (X j).cc, cV ss[j].c (X' j).pc (X' j).cc] wr fun e w' => e = .returned (.bool true) ∧ Below wr.heap.size wr w') := Lib.hid fun j hj wr hr =>
        sameCond_any (hcd j hj) wr (hw.trans (hr.mono hw')) Q' _ _ ((hcd' j hj).bel hr)
      clear hcell hcd hth hel ih1 ih2 hcell' hcd' hth' hel' hb hb'
      have HK0 := Lib.hid (Below.refl w.heap.size w)
      clear hw hw'
      go_enter Tryz.func16, Tryz.ntmps16
      go_wp2_with fail
      go_loopw [5] (fun i wr => ∃ j : Nat, j ≤ ss.length ∧ i = .int .i64 j ∧ Hid (Below w.heap.size w wr)) (fun i _ => ss.length - (intOf i).toNat)
      case atStart => exact ⟨0, Nat.zero_le _, rfl, HK0⟩
      case round =>
        obtain ⟨j, hj, rfl, HK⟩ := hrel
        clear HK0
        by_cases hlt : j < ss.length
        · obtain ⟨⟨rfl, -⟩, rfl, -⟩ := HX.out j hlt _ HK.out
          have HC0 : Hid (∀ wd, Below wr.heap.size wr wd → Calls Tryz.prog 17 #[cV ss[j].c (X j).pc (X j).cc, cV ss[j].c (X' j).pc (X' j).cc] wd fun e w' => e = .returned (.bool true) ∧ Hid (Below wr.heap.size wr w')) := Lib.hid fun wd hd =>
            (HI0.out j hlt wd (HK.out.trans (hd.mono HK.out.size))).mono fun e w' h => ⟨h.1, Lib.hid (hd.trans (h.2.mono hd.size))⟩
          have HC1 : Hid (∀ wd, Below wr.heap.size wr wd → Calls Tryz.prog 16 #[.slice (X j).pt ss[j].th.length (X j).ct, .slice (X' j).pt ss[j].th.length (X' j).ct] wd fun e w' => e = .returned (.bool true) ∧ Hid (Below wr.heap.size wr w')) := Lib.hid fun wd hd =>
            (HI1.out j hlt wd (HK.out.trans (hd.mono HK.out.size))).mono fun e w' h => ⟨h.1, Lib.hid (hd.trans (h.2.mono hd.size))⟩
          have HC2 : Hid (∀ wd, Below wr.heap.size wr wd → Calls Tryz.prog 16 #[.slice (X j).pe ss[j].el.length (X j).ce, .slice (X' j).pe ss[j].el.length (X' j).ce] wd fun e w' => e = .returned (.bool true) ∧ Hid (Below wr.heap.size wr w')) := Lib.hid fun wd hd =>
            (HI2.out j hlt wd (HK.out.trans (hd.mono HK.out.size))).mono fun e w' h => ⟨h.1, Lib.hid (hd.trans (h.2.mono hd.size))⟩
          have HY : Hid (∀ wd, Below wr.heap.size wr wd → wd.cell? ⟨b, off + j * 8, none⟩ = some (.int .i64 ss[j].k) ∧ wd.cell? ⟨b, off + j * 8 + 1, none⟩ = some (.int .i64 ss[j].b) ∧ wd.cell? ⟨b, off + j * 8 + 2, none⟩ = some (.int .i64 ss[j].c.k) ∧ wd.cell? ⟨b, off + j * 8 + 2 + 1, none⟩ = some (.int .i64 ss[j].c.v) ∧ wd.cell? ⟨b, off + j * 8 + 2 + 2, none⟩ = some (.int .i64 ss[j].c.n) ∧ wd.cell? ⟨b, off + j * 8 + 2 + 3, none⟩ = some (.slice (X j).pc ss[j].c.ps.length (X j).cc) ∧ wd.cell? ⟨b, off + j * 8 + 6, none⟩ = some (.slice (X j).pt ss[j].th.length (X j).ct) ∧ wd.cell? ⟨b, off + j * 8 + 7, none⟩ = some (.slice (X j).pe ss[j].el.length (X j).ce) ∧
              wd.cell? ⟨b', off' + j * 8, none⟩ = some (.int .i64 ss[j].k) ∧ wd.cell? ⟨b', off' + j * 8 + 1, none⟩ = some (.int .i64 ss[j].b) ∧ wd.cell? ⟨b', off' + j * 8 + 2, none⟩ = some (.int .i64 ss[j].c.k) ∧ wd.cell? ⟨b', off' + j * 8 + 2 + 1, none⟩ = some (.int .i64 ss[j].c.v) ∧ wd.cell? ⟨b', off' + j * 8 + 2 + 2, none⟩ = some (.int .i64 ss[j].c.n) ∧ wd.cell? ⟨b', off' + j * 8 + 2 + 3, none⟩ = some (.slice (X' j).pc ss[j].c.ps.length (X' j).cc) ∧ wd.cell? ⟨b', off' + j * 8 + 6, none⟩ = some (.slice (X' j).pt ss[j].th.length (X' j).ct) ∧ wd.cell? ⟨b', off' + j * 8 + 7, none⟩ = some (.slice (X' j).pe ss[j].el.length (X' j).ce) ∧ Hid (Below wr.heap.size wr wd)) := Lib.hid fun wd hd => by
            obtain ⟨⟨_, h1⟩, _, h2⟩ := HX.out j hlt wd (HK.out.trans (hd.mono HK.out.size))
            exact ⟨h1 0 _ rfl, h1 1 _ rfl, h1 2 _ rfl, h1 3 _ rfl, h1 4 _ rfl, h1 5 _ rfl, h1 6 _ rfl, h1 7 _ rfl, h2 0 _ rfl, h2 1 _ rfl, h2 2 _ rfl, h2 3 _ rfl, h2 4 _ rfl, h2 5 _ rfl, h2 6 _ rfl, h2 7 _ rfl, Lib.hid hd⟩
          unfold cV at HC0
          have hR := HY.out wr (Below.refl _ _)
          clear HX HI0 HI1 HI2
          generalize X j = x at *
          generalize X' j = x' at *
          obtain ⟨pc, cc, pt, ct, pe, ce⟩ := x
          obtain ⟨pc', cc', pt', ct', pe', ce'⟩ := x'
          dsimp only at *
          generalize ss[j].k = s1 at *
          generalize ss[j].b = s2 at *
          generalize ss[j].th.length = s3 at *
          generalize ss[j].el.length = s4 at *
          generalize ss[j].c.k = s5 at *
          generalize ss[j].c.v = s6 at *
          generalize ss[j].c.n = s7 at *
          generalize ss[j].c.ps.length = s8 at *
          have wj1 : (j : Int) < (ss.length : Int) := by omega
          go_upto_region 6 with (fail)
          go_cut [82] from 11 to 82 (fun v wc => v = .bool false ∧ Hid (Below wr.heap.size wr wc))
          case first =>
            simp only [List.append_eq, List.cons_append, List.nil_append]
            go_region_held3 (fun w' => w'.cell? ⟨b, off + j * 8, none⟩ = some (.int .i64 s1) ∧ w'.cell? ⟨b, off + j * 8 + 1, none⟩ = some (.int .i64 s2) ∧ w'.cell? ⟨b, off + j * 8 + 2, none⟩ = some (.int .i64 s5) ∧ w'.cell? ⟨b, off + j * 8 + 2 + 1, none⟩ = some (.int .i64 s6) ∧ w'.cell? ⟨b, off + j * 8 + 2 + 2, none⟩ = some (.int .i64 s7) ∧ w'.cell? ⟨b, off + j * 8 + 2 + 3, none⟩ = some (.slice pc s8 cc) ∧ w'.cell? ⟨b, off + j * 8 + 6, none⟩ = some (.slice pt s3 ct) ∧ w'.cell? ⟨b, off + j * 8 + 7, none⟩ = some (.slice pe s4 ce) ∧ w'.cell? ⟨b', off' + j * 8, none⟩ = some (.int .i64 s1) ∧ w'.cell? ⟨b', off' + j * 8 + 1, none⟩ = some (.int .i64 s2) ∧ w'.cell? ⟨b', off' + j * 8 + 2, none⟩ = some (.int .i64 s5) ∧ w'.cell? ⟨b', off' + j * 8 + 2 + 1, none⟩ = some (.int .i64 s6) ∧ w'.cell? ⟨b', off' + j * 8 + 2 + 2, none⟩ = some (.int .i64 s7) ∧ w'.cell? ⟨b', off' + j * 8 + 2 + 3, none⟩ = some (.slice pc' s8 cc') ∧ w'.cell? ⟨b', off' + j * 8 + 6, none⟩ = some (.slice pt' s3 ct') ∧ w'.cell? ⟨b', off' + j * 8 + 7, none⟩ = some (.slice pe' s4 ce') ∧ Hid (Below wr.heap.size wr w'))
              (first
                | with_reducible exact HY.out _ (Below.refl _ _).drew
                | with_reducible exact HY.out _ (Below.refl _ _)
                | with_reducible exact HY.out _ hb1.out
                | with_reducible exact HY.out _ hb2.out
                | with_reducible exact HY.out _ hb3.out
                | assumption | go_keep)
              (first
                | (go_at_call 17; with_reducible refine (HC0.out _ (heldS (W := wr) (by assumption))).mono ?_; rintro e w' ⟨rfl, hb1⟩)
                | (go_at_call 16; with_reducible refine (HC1.out _ (heldS (W := wr) (by assumption))).mono ?_; rintro e w' ⟨rfl, hb2⟩)
                | (go_at_call 16; with_reducible refine (HC2.out _ (heldS (W := wr) (by assumption))).mono ?_; rintro e w' ⟨rfl, hb3⟩))
            all_goals (go_wp2_with fail; go_meet; exact ⟨rfl, Lib.hid (heldS (W := wr) (by assumption))⟩)
          case rest =>
            obtain ⟨rfl, HBC⟩ := hcut
            have HK3 := Lib.hid (HK.out.trans (HBC.out.mono HK.out.size))
            clear HBC HC0 HC1 HC2 HY hR
            go_wp2_with fail
            go_round
            case rel => exact ⟨j + 1, by omega, by go_num, HK3⟩
            case measure => simp [intOf]; omega
        · go_wp2_with fail
          go_ret
          exact ⟨rfl, HK.out⟩
end Go.Proofs.YtdhdjfkknfbmhaaGreatDoor
