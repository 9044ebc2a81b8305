import Derived.Test.YtdennlekjndfkaaRefF
namespace Go.Proofs.Ytdennlekjndfkaa
open Go.RowKit

theorem addE_ok {a b : List Sp} (h : errLL a b = 0) (h2 : (canon a).length * (canon b).length ≤ 65536) (h3 : allOk (canon a) (canon b) = true) : addE a b = limE (addC (canon a) (canon b)) ∧ addS a b = limS (addC (canon a) (canon b)) := by
  have hn : ¬ 65536 < (canon a).length * (canon b).length := by omega
  unfold addE addS; rw [if_pos h, if_pos h, if_neg hn, if_neg hn, if_pos h3, if_pos h3]; exact ⟨rfl, rfl⟩
theorem addE_bad {a b : List Sp} (h : errLL a b = 0) (h2 : (canon a).length * (canon b).length ≤ 65536) (h3 : allOk (canon a) (canon b) = false) : addE a b = 10 ∧ addS a b = [] := by
  have hn : ¬ 65536 < (canon a).length * (canon b).length := by omega
  unfold addE addS; rw [if_pos h, if_pos h, if_neg hn, if_neg hn, h3]; exact ⟨rfl, rfl⟩
theorem all_canon {P : Sp → Prop} (l : List Sp) (h : ∀ s ∈ canon l, P s) : ∀ s ∈ canon l, P s := h

set_option maxRecDepth 100000 in
set_option maxHeartbeats 1000000 in
theorem refAdd_any (p q : Option Addr) (cap cap' : Nat) (a b : List Sp) (w : World) (B B' : Nat) (ha : SpAt w B p a) (hb : SpAt w B' q b) (ha24 : a.length ≤ 24) (hb24 : b.length ≤ 24) :
    Calls Try.prog 25 #[.slice p a.length cap, .slice q b.length cap'] w (Res w (addS a b) (addE a b)) := by
  by_cases h : errLL a b = 0
  · obtain ⟨ea, eb⟩ := errLL_zero h
    have HAb := Lib.hid (errL_bd ea)
    have HBb := Lib.hid (errL_bd eb)
    have hxl : (canon a).length ≤ 24 := Nat.le_trans (canon_len _ HAb.out) ha24
    have hyl : (canon b).length ≤ 24 := Nat.le_trans (canon_len _ HBb.out) hb24
    have hprod : (canon a).length * (canon b).length ≤ 24 * 24 := Nat.mul_le_mul hxl hyl
    have HOK := Lib.hid (addE_ok h (by omega))
    have HBAD := Lib.hid (addE_bad h (by omega))
    have HXB := Lib.hid (canon_bd _ HAb.out)
    have HYB := Lib.hid (canon_bd _ HBb.out)
    have HZ := Lib.hid h
    clear h ea eb
    go_enter Try.func25, Try.ntmps25
    go_wp2_with fail
    refine (both_any p q cap cap' a b _ B B' ha hb).mono ?_
    rw [HZ.out]
    rintro e w1 ⟨rfl, hb1⟩
    have HB := Lib.hid hb1
    have ha1 := ha.below hb1
    have hb1' := hb.below hb1
    clear hb1
    go_wp2_with fail
    refine (refTidy_any p cap a _ _ ha1 HAb.out (by omega)).mono ?_
    rintro e w2 ⟨v2, rfl, hown2, hbel2⟩
    obtain ⟨q1, c1, rfl, hsp1, _⟩ := hown2.reads (fit_of_bd HXB.out) (by omega)
    have hb2' := hb1'.below hbel2
    have HB2 := Lib.hid (HB.out.trans (hbel2.mono HB.out.size))
    clear hown2 hbel2 hb1'
    go_wp2_with fail
    refine (refTidy_any q cap' b _ _ hb2' HBb.out (by omega)).mono ?_
    rintro e w3 ⟨v3, rfl, hown3, hbel3⟩
    obtain ⟨q2, c2, rfl, hsp2, _⟩ := hown3.reads (fit_of_bd HYB.out) (by omega)
    have hsp1' := hsp1.below hbel3
    have HB3 := Lib.hid (HB2.out.trans (hbel3.mono HB2.out.size))
    clear hown3 hbel3 hb2' hsp1
    generalize canon a = X at *
    generalize canon b = Y at *
    have hp0 : (0 : Int) ≤ (X.length : Int) * (Y.length : Int) := Int.mul_nonneg (by omega) (by omega)
    have hp1 : ((X.length * Y.length : Nat) : Int) ≤ 576 := by omega
    rw [Int.natCast_mul] at hp1
    go_wp2_with fail
    go_loopw [9, 10] (fun v i wr => ∃ (k : Nat) (o : List Sp), k ≤ X.length ∧ i = .int .i64 k ∧ Hid (o = addC (X.take k) Y ∧ allOk (X.take k) Y = true) ∧ Own wr w3.heap.size v o ∧ Below w3.heap.size w3 wr) (fun _ i _ => X.length - (intOf i).toNat)
    case atStart => exact ⟨0, [], Nat.zero_le _, rfl, ⟨rfl, rfl⟩, Own.made w3 _ _ rfl (Nat.le_refl _), (Below.refl _ _).alloc (Nat.le_refl _) _⟩
    case round =>
      obtain ⟨k, o, hk, rfl, HO, hown, hbel⟩ := hrel
      have HBEL := Lib.hid hbel
      by_cases hlt : k < X.length
      · have HT := Lib.hid (addC_take X Y k hlt)
        have HT1 := Lib.hid (allOk_take X Y k hlt HO.out.2)
        have HNO := Lib.hid (allOk_no X Y k)
        have hx := HXB.out X[k] (List.getElem_mem hlt)
        obtain ⟨b1, off, rfl, _, hbs, hc⟩ := hsp1'.at' (by intro h; simp [h] at hlt)
        have hc1 := (hc k hlt).1
        have hc2 := (hc k hlt).2
        clear hc hbel
        have hok := addC_ok (X.take k) Y HO.out.2
        rw [← HO.out.1, List.length_take_of_le hk] at hok
        have HOKo := Lib.hid hok
        clear hok
        have HNO2 : Hid (∀ j, (h' : j < Y.length) → okSp (sm X[k] Y[j]) = false → allOk X Y = false) := fun j h' hh => HNO.out j hlt h' hh
        clear HNO
        generalize X[k] = x at *
        obtain ⟨wo, hwo⟩ : ∃ wo : World, wo = wr := ⟨_, rfl⟩
        subst hwo
        go_wp2_with fail
        go_loopw [9, 11] (fun v i wr => ∃ (j : Nat) (o2 : List Sp), j ≤ Y.length ∧ i = .int .i64 j ∧ Hid (o2 = aRow (Y.take j) o x ∧ rowOk (Y.take j) x = true) ∧ Own wr w3.heap.size v o2 ∧ Below w3.heap.size w3 wr) (fun _ i _ => Y.length - (intOf i).toNat)
        case atStart => exact ⟨0, o, Nat.zero_le _, rfl, ⟨rfl, rfl⟩, hown, HBEL.out⟩
        case round =>
          obtain ⟨j, o2, hj, rfl, HO2, hown2, hbel2⟩ := hrel
          have HBEL2 := Lib.hid hbel2
          have hok2 := aRow_ok x (Y.take j) o HOKo.out.1 HO2.out.2
          rw [← HO2.out.1] at hok2
          obtain ⟨hok2, hol2⟩ := hok2
          have HOK2 := Lib.hid hok2; clear hok2
          have hol2' : o2.length ≤ 600 := by
            have h1 := HOKo.out.2
            have h2 : k * Y.length ≤ 24 * 24 := Nat.mul_le_mul (by omega) hyl
            have h3 := List.length_take_le j Y
            omega
          clear hol2
          by_cases hlt2 : j < Y.length
          · have HT2 := Lib.hid (aRow_take Y o x j hlt2)
            have HT3 := Lib.hid (rowOk_take Y x j hlt2 HO2.out.2)
            have HN3 := Lib.hid (HNO2.out j hlt2)
            have hy := HYB.out Y[j] (List.getElem_mem hlt2)
            obtain ⟨b2, off2, rfl, _, hbs2, hd⟩ := hsp2.at' (by intro h; simp [h] at hlt2)
            have hbs1 : b1 < wr.heap.size := Nat.lt_of_lt_of_le hbs hbel2.size
            have hbs3 : b2 < wr.heap.size := Nat.lt_of_lt_of_le hbs2 hbel2.size
            have d1 := (hbel2.cell (p := ⟨b2, off2 + j * 2, none⟩) hbs2).trans (hd j hlt2).1
            have d2 := (hbel2.cell (p := ⟨b2, off2 + j * 2 + 1, none⟩) hbs2).trans (hd j hlt2).2
            have c1 := (hbel2.cell (p := ⟨b1, off + k * 2, none⟩) hbs).trans hc1
            have c2 := (hbel2.cell (p := ⟨b1, off + k * 2 + 1, none⟩) hbs).trans hc2
            clear hd hbel2
            generalize Y[j] = y at *
            unfold Bd at hx hy
            have e1 : ∀ u, (wr.alloc u).cell? ⟨b1, off + k * 2, none⟩ = some (.int .i64 x.1) := fun u => later1 hbs1 c1
            have e2 : ∀ u, (wr.alloc u).cell? ⟨b1, off + k * 2 + 1, none⟩ = some (.int .i64 x.2) := fun u => later1 hbs1 c2
            have e3 : ∀ u, (wr.alloc u).cell? ⟨b2, off2 + j * 2, none⟩ = some (.int .i64 y.1) := fun u => later1 hbs3 d1
            have e4 : ∀ u, (wr.alloc u).cell? ⟨b2, off2 + j * 2 + 1, none⟩ = some (.int .i64 y.2) := fun u => later1 hbs3 d2
            have HSM := Lib.hid (show (x.1 + y.1, x.2 + y.2) = sm x y from rfl)
            have hfit : FitSp (x.1 + y.1, x.2 + y.2) := by unfold FitSp; dsimp only; omega
            go_wp2_with fail
            go_region
            go_wp2_with fail
            cases hs : okSp (sm x y) with
            | true =>
              have HS := Lib.hid hs; clear hs
              have HSB := Lib.hid (Bd.ok HS.out)
              obtain ⟨r, rc, rfl, hsp, _⟩ := hown2.reads (fit_of_bd HOK2.out) (by omega)
              have hsp' := hsp.below (((Below.refl _ wr).alloc (Nat.le_refl _) (.cells #[.int .i64 (x.1 + y.1), .int .i64 (x.2 + y.2)] 23)).drew)
              clear hsp hown2
              refine (refCheck_any (x.1 + y.1, x.2 + y.2) hfit _).mono ?_
              rw [show errSp (x.1 + y.1, x.2 + y.2) = 0 by unfold errSp; rw [HSM.out, HS.out]; rfl]
              rintro e w4 ⟨rfl, hb4⟩
              have hsp'' := hsp'.below hb4
              have f1 : w4.cell? ⟨wr.heap.size, 0, none⟩ = some (.int .i64 (x.1 + y.1)) := (hb4.cell (p := ⟨wr.heap.size, 0, none⟩) (by simp)).trans (by go_simp)
              have f2 : w4.cell? ⟨wr.heap.size, 1, none⟩ = some (.int .i64 (x.2 + y.2)) := (hb4.cell (p := ⟨wr.heap.size, 1, none⟩) (by simp)).trans (by go_simp)
              have hz4 := hb4.size
              have HB4 := Lib.hid (((HBEL2.out.alloc HBEL2.out.size _).drew).trans (hb4.mono (Nat.le_trans HBEL2.out.size (by simp))))
              clear hb4 hsp'
              go_wp2_with (go_at_call 43; refine (with_any r rc o2 (x.1 + y.1, x.2 + y.2) _ _ hsp'' HOK2.out HSB.out (by omega)).mono ?_; rintro e w5 ⟨v5, rfl, hown5, hb5⟩)
              go_roundw
              case rel => exact ⟨j + 1, withS o2 (sm x y), by omega, by go_num, ⟨by rw [HT2.out, ← HO2.out.1], HT3.out HS.out⟩, hown5.mono HB4.out.size, HB4.out.trans (hb5.mono HB4.out.size)⟩
              case measure => simp [intOf]; omega
            | false =>
              have HS := Lib.hid hs; clear hs
              have HF := Lib.hid (HBAD.out (HN3.out HS.out))
              refine (refCheck_any (x.1 + y.1, x.2 + y.2) hfit _).mono ?_
              rw [show errSp (x.1 + y.1, x.2 + y.2) = 10 by unfold errSp; rw [HSM.out, HS.out]; rfl]
              rintro e w4 ⟨rfl, hb4⟩
              have HB4 := Lib.hid (((HBEL2.out.alloc HBEL2.out.size _).drew).trans (hb4.mono (Nat.le_trans HBEL2.out.size (by simp))))
              clear hb4
              go_wp2_with fail
              go_ret2
              exact ⟨none, 0, by rw [HF.out.1, HF.out.2]; rfl, by rw [HF.out.2]; exact SpAt.nil, fun _ => rfl, HB3.out.trans (HB4.out.mono HB3.out.size)⟩
          · clear hbel2
            go_wp2_with fail
            go_roundw
            case rel =>
              have h2 := HO2.out
              rw [List.take_of_length_le (by omega)] at h2
              exact ⟨k + 1, o2, by omega, by go_num, ⟨by rw [h2.1, HT.out, ← HO.out.1], HT1.out h2.2⟩, hown2, HBEL2.out⟩
            case measure => simp [intOf]; omega
      · have HO' : Hid (o = addC X Y ∧ allOk X Y = true) := by have := HO.out; rw [List.take_of_length_le (by omega)] at this; exact this
        have hok := addC_ok X Y HO'.out.2
        rw [← HO'.out.1] at hok
        have hlen : o.length ≤ 24 * 24 := Nat.le_trans hok.2 hprod
        obtain ⟨r, rc, rfl, hsp, _, hrc, _⟩ := hown.reads (fit_of_bd hok.1) (by omega)
        have HL := Lib.hid (limE_no (show ¬ 4096 < o.length by omega))
        have HF := Lib.hid (HOK.out HO'.out.2)
        clear hbel hok hown
        go_wp2_with fail
        refine (limited_any r rc o _ (by omega)).mono ?_
        rw [if_neg (by omega), HL.out.1]
        rintro e w5 ⟨rfl, rfl⟩
        go_wp2_with fail
        go_ret2
        exact ⟨r, rc, by rw [HF.out.1, HF.out.2, ← HO'.out.1, HL.out.1, HL.out.2]; rfl, by rw [HF.out.2, ← HO'.out.1, HL.out.2]; exact hsp.mono HB3.out.size, hrc, HB3.out.trans (HBEL.out.mono HB3.out.size)⟩
  · have HS := Lib.hid (show addS a b = [] by unfold addS; rw [if_neg h])
    have HE := Lib.hid (show addE a b = errLL a b by unfold addE; rw [if_neg h])
    have h2 : (errLL a b != 0) = true := by simpa using h
    generalize hE : errLL a b = er at *
    have HER := Lib.hid hE; clear hE
    go_enter Try.func25, Try.ntmps25
    go_wp2_with fail
    refine (both_any p q cap cap' a b _ B B' ha hb).mono ?_
    rw [HER.out]
    rintro e w1 ⟨rfl, hb1⟩
    have HB := Lib.hid hb1
    clear hb1
    go_wp2_with fail
    go_ret2
    exact ⟨none, 0, by rw [HS.out, HE.out]; rfl, by rw [HS.out]; exact SpAt.nil, fun _ => rfl, HB.out⟩
end Go.Proofs.Ytdennlekjndfkaa
