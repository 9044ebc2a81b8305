import Derived.Test.YtdennlekjndfkaaRefD
import Derived.Test.YtdennlekjndfkaaMath3
import Derived.BigRegion
namespace Go.Proofs.Ytdennlekjndfkaa
open Go.RowKit

theorem later2 {w : World} {b o : Nat} {v : Value} (h : b < w.heap.size) (hc : w.cell? ⟨b, o, none⟩ = some v) {u : Obj} : (w.alloc u).cell? ⟨b, o, none⟩ = some v := (((Below.refl w.heap.size w).alloc (Nat.le_refl _) u).cell (p := ⟨b, o, none⟩) h).trans hc

set_option maxRecDepth 100000 in
set_option maxHeartbeats 1000000 in
theorem refShift_any (p : Option Addr) (cap : Nat) (l : List Sp) (t : Int) (ht : -9223372036854775808 ≤ t ∧ t ≤ 9223372036854775807) (w : World) (B : Nat) (hl : SpAt w B p l) :
    Calls Try.prog 27 #[.slice p l.length cap, .int .i64 t] w (Res w (shiftS l t) (shiftE l t)) := by
  by_cases h : errL l = 0
  · have HLb := Lib.hid (errL_bd h)
    have hll := (errL_all h).1
    have hxl : (canon l).length ≤ 4096 := Nat.le_trans (canon_len _ HLb.out) hll
    have HXO := Lib.hid (canon_okSp l (errL_all h).2)
    have HXB := Lib.hid (canon_bd _ HLb.out)
    have HOK := Lib.hid (fun h2 => shift_ok (b := t) h h2)
    have HBAD := Lib.hid (fun h2 => shift_bad (b := t) h h2)
    have HZ := Lib.hid h
    clear h
    go_enter Try.func27, Try.ntmps27
    go_wp2_with fail
    refine (valid_any p cap l _ B hl).mono ?_
    rw [HZ.out]
    rintro e w1 ⟨rfl, hb1⟩
    have HB := Lib.hid hb1
    have hl1 := hl.below hb1
    clear hb1
    go_wp2_with fail
    refine (refTidy_any p cap l _ _ hl1 HLb.out (by omega)).mono ?_
    rintro e w2 ⟨v2, rfl, hown2, hbel2⟩
    obtain ⟨q1, c1, rfl, hsp1, _⟩ := hown2.reads (fit_of_bd HXB.out) (by omega)
    have HB2 := Lib.hid (HB.out.trans (hbel2.mono HB.out.size))
    clear hown2 hbel2
    generalize canon l = X at *
    go_wp2_with fail
    go_loopw [8, 9] (fun v i wr => ∃ (k : Nat) (o : List Sp), k ≤ X.length ∧ i = .int .i64 k ∧ Hid (o = shL (X.take k) t ∧ shOk (X.take k) t = true) ∧ Own wr w2.heap.size v o ∧ Below w2.heap.size w2 wr) (fun _ i _ => X.length - (intOf i).toNat)
    case atStart => exact ⟨0, [], Nat.zero_le _, rfl, ⟨rfl, rfl⟩, Own.made w2 _ _ rfl (Nat.le_refl _), (Below.refl _ _).alloc (Nat.le_refl _) _⟩
    case round =>
      obtain ⟨k, o, hk, rfl, HO, hown, hbel⟩ := hrel
      have HBEL := Lib.hid hbel
      have hol : o.length ≤ 4096 := by rw [HO.out.1]; unfold shL; rw [List.length_map]; exact Nat.le_trans (List.length_take_le _ _) (by omega)
      by_cases hlt : k < X.length
      · have HT := Lib.hid (shL_take X t k hlt)
        have HT1 := Lib.hid (shOk_take X t k hlt HO.out.2)
        have HNO := Lib.hid (shOk_no X t k hlt)
        have hx := HXO.out X[k] (List.getElem_mem hlt)
        rw [okSp_iff] at hx
        obtain ⟨b1, off, rfl, _, hbs, hc⟩ := hsp1.at' (by intro h; simp [h] at hlt)
        have hbs1 : b1 < wr.heap.size := Nat.lt_of_lt_of_le hbs hbel.size
        have g1 := (hbel.cell (p := ⟨b1, off + k * 2, none⟩) hbs).trans (hc k hlt).1
        have g2 := (hbel.cell (p := ⟨b1, off + k * 2 + 1, none⟩) hbs).trans (hc k hlt).2
        clear hc hbel
        generalize X[k] = x at *
        by_cases h1 : 140737488355328 < t
        · have HF := Lib.hid (HBAD.out (HNO.out ((okSp_no _).2 (by dsimp only; omega))))
          go_wp2_with fail
          go_ret2
          exact ⟨none, 0, by rw [HF.out.1, HF.out.2]; rfl, by rw [HF.out.2]; exact SpAt.nil, fun _ => rfl, HB2.out.trans (HBEL.out.mono HB2.out.size)⟩
        by_cases h2 : t < -140737488355328
        · have HF := Lib.hid (HBAD.out (HNO.out ((okSp_no _).2 (by dsimp only; omega))))
          go_wp2_with fail
          go_ret2
          exact ⟨none, 0, by rw [HF.out.1, HF.out.2]; rfl, by rw [HF.out.2]; exact SpAt.nil, fun _ => rfl, HB2.out.trans (HBEL.out.mono HB2.out.size)⟩
        have e1 : ∀ u, (wr.alloc u).cell? ⟨b1, off + k * 2, none⟩ = some (.int .i64 x.1) := fun u => later2 hbs1 g1
        have e2 : ∀ u, (wr.alloc u).cell? ⟨b1, off + k * 2 + 1, none⟩ = some (.int .i64 x.2) := fun u => later2 hbs1 g2
        have hfit : FitSp (x.1 + t, x.2 + t) := by unfold FitSp; dsimp only; omega
        go_wp2_with fail
        go_region
        go_wp2_with fail
        cases hs : okSp (x.1 + t, x.2 + t) with
        | true =>
          have HS := Lib.hid hs; clear hs
          refine (refCheck_any (x.1 + t, x.2 + t) hfit _).mono ?_
          rw [show errSp (x.1 + t, x.2 + t) = 0 by unfold errSp; rw [HS.out]; rfl]
          rintro e w4 ⟨rfl, hb4⟩
          have f1 : w4.cell? ⟨wr.heap.size, 0, none⟩ = some (.int .i64 (x.1 + t)) := (hb4.cell (p := ⟨wr.heap.size, 0, none⟩) (by simp)).trans (by go_simp)
          have f2 : w4.cell? ⟨wr.heap.size, 1, none⟩ = some (.int .i64 (x.2 + t)) := (hb4.cell (p := ⟨wr.heap.size, 1, none⟩) (by simp)).trans (by go_simp)
          have hown4 := ((hown.alloc (.cells #[.int .i64 (x.1 + t), .int .i64 (x.2 + t)] 23)).drewN 1).below hb4 (Nat.le_refl _)
          have HB4 := Lib.hid (((HBEL.out.alloc HBEL.out.size _).drew).trans (hb4.mono (Nat.le_trans HBEL.out.size (by simp))))
          have hz := HB4.out.size
          clear hb4 hown
          go_wp2_with (at_builtin; refine wpList_app rfl _ _ rfl w2.heap.size _ o hown4 rfl (x.1 + t, x.2 + t) _ rfl (by omega) (by omega) ?_; intro v5 w5 hown5 hb5 hs5 hv5)
          go_roundw
          case rel => exact ⟨k + 1, o ++ [(x.1 + t, x.2 + t)], by omega, by go_num, ⟨by rw [HT.out, ← HO.out.1], HT1.out HS.out⟩, hown5, HB4.out.trans hb5⟩
          case measure => simp [intOf]; omega
        | false =>
          have HS := Lib.hid hs; clear hs
          have HF := Lib.hid (HBAD.out (HNO.out HS.out))
          refine (refCheck_any (x.1 + t, x.2 + t) hfit _).mono ?_
          rw [show errSp (x.1 + t, x.2 + t) = 10 by unfold errSp; rw [HS.out]; rfl]
          rintro e w4 ⟨rfl, hb4⟩
          have HB4 := Lib.hid (((HBEL.out.alloc HBEL.out.size _).drew).trans (hb4.mono (Nat.le_trans HBEL.out.size (by simp))))
          clear hb4
          go_wp2_with fail
          go_ret2
          exact ⟨none, 0, by rw [HF.out.1, HF.out.2]; rfl, by rw [HF.out.2]; exact SpAt.nil, fun _ => rfl, HB2.out.trans (HB4.out.mono HB2.out.size)⟩
      · have HO' : Hid (o = shL X t ∧ shOk X t = true) := by have := HO.out; rw [List.take_of_length_le (by omega)] at this; exact this
        have hfo : ∀ s ∈ o, FitSp s := by
          intro s hs
          rw [HO'.out.1] at hs
          unfold shL at hs
          rw [List.mem_map] at hs
          obtain ⟨x, hx, rfl⟩ := hs
          exact (Bd.ok (List.all_eq_true.1 HO'.out.2 x hx)).fit
        obtain ⟨r, rc, rfl, hsp, _, hrc, _⟩ := hown.reads hfo (by omega)
        have HF := Lib.hid (HOK.out HO'.out.2)
        clear hbel hown hfo
        go_wp2_with fail
        go_ret2
        exact ⟨r, rc, by rw [HF.out.1, HF.out.2, ← HO'.out.1]; rfl, by rw [HF.out.2, ← HO'.out.1]; exact hsp.mono HB2.out.size, hrc, HB2.out.trans (HBEL.out.mono HB2.out.size)⟩
  · have HF := Lib.hid (shift_err (b := t) h)
    have h2 : (errL l != 0) = true := by simpa using h
    generalize hE : errL l = er at *
    have HER := Lib.hid hE; clear hE
    go_enter Try.func27, Try.ntmps27
    go_wp2_with fail
    refine (valid_any p cap l _ B hl).mono ?_
    rw [HER.out]
    rintro e w1 ⟨rfl, hb1⟩
    have HB := Lib.hid hb1
    clear hb1
    go_wp2_with fail
    go_ret2
    exact ⟨none, 0, by rw [HF.out.1, HF.out.2]; rfl, by rw [HF.out.2]; exact SpAt.nil, fun _ => rfl, HB.out⟩
end Go.Proofs.Ytdennlekjndfkaa
