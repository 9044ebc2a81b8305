import Derived.Test.YtdennlekjndfkaaRefE
namespace Go.Proofs.Ytdennlekjndfkaa
open Go.RowKit

theorem later1 {w : World} {b o : Nat} {v : Value} (h : b < w.heap.size) (hc : w.cell? ⟨b, o, none⟩ = some v) {u : Obj} : (w.alloc u).cell? ⟨b, o, none⟩ = some v := (((Below.refl w.heap.size w).alloc (Nat.le_refl _) u).cell (p := ⟨b, o, none⟩) h).trans hc

set_option maxRecDepth 100000 in
set_option maxHeartbeats 1000000 in
theorem refMeet_any (p q : Option Addr) (cap cap' : Nat) (a b : List Sp) (w : World) (B B' : Nat) (ha : SpAt w B p a) (hb : SpAt w B' q b) (ha24 : a.length ≤ 24) (hb24 : b.length ≤ 24) :
    Calls Try.prog 18 #[.slice p a.length cap, .slice q b.length cap'] w (Res w (meetS a b) (meetE a b)) := by
  by_cases h : errLL a b = 0
  · have HS := Lib.hid (show meetS a b = limS (meetC a b) by unfold meetS; rw [if_pos h])
    have HE := Lib.hid (show meetE a b = limE (meetC a b) by unfold meetE; rw [if_pos h])
    have HZ := Lib.hid h
    obtain ⟨ea, eb⟩ := errLL_zero h
    have HA := Lib.hid (errL_bd ea)
    have HBB := Lib.hid (errL_bd eb)
    clear h ea eb
    go_enter Try.func18, Try.ntmps18
    go_wp2_with fail
    refine (both_any p q cap cap' a b _ B B' ha hb).mono ?_
    rw [HZ.out]
    rintro e w1 ⟨rfl, hb1⟩
    have HB := Lib.hid hb1
    clear hb1
    go_wp2_with fail
    go_loopw [7, 8] (fun v i wr => ∃ (k : Nat) (o : List Sp), k ≤ a.length ∧ i = .int .i64 k ∧ Hid (o = meetC (a.take k) b) ∧ Own wr w.heap.size v o ∧ Below w.heap.size w wr) (fun _ i _ => a.length - (intOf i).toNat)
    case atStart => exact ⟨0, [], Nat.zero_le _, rfl, rfl, Own.made w1 _ _ rfl HB.out.size, HB.out.alloc HB.out.size _⟩
    case round =>
      obtain ⟨k, o, hk, rfl, HO, hown, hbel⟩ := hrel
      have HBEL := Lib.hid hbel
      by_cases hlt : k < a.length
      · have HT := Lib.hid (meetC_take a b k hlt)
        have hx := HA.out a[k] (List.getElem_mem hlt)
        obtain ⟨b1, off, rfl, _, hbs, hc⟩ := ha.at' (by intro h; simp [h] at hlt)
        have hc1 := (hc k hlt).1
        have hc2 := (hc k hlt).2
        clear hc hbel
        have hok := meetC_ok (a.take k) b (fun x hx => HA.out x (List.mem_of_mem_take hx)) HBB.out
        rw [← HO.out, List.length_take_of_le hk] at hok
        have HOK := Lib.hid hok
        clear hok
        generalize a[k] = x at *
        obtain ⟨wo, hwo⟩ : ∃ wo : World, wo = wr := ⟨_, rfl⟩
        subst hwo
        go_wp2_with fail
        go_loopw [7, 9] (fun v i wr => ∃ (j : Nat) (o2 : List Sp), j ≤ b.length ∧ i = .int .i64 j ∧ Hid (o2 = mRow (b.take j) o x) ∧ Own wr w.heap.size v o2 ∧ Below w.heap.size w wr) (fun _ i _ => b.length - (intOf i).toNat)
        case atStart => exact ⟨0, o, Nat.zero_le _, rfl, rfl, hown, HBEL.out⟩
        case round =>
          obtain ⟨j, o2, hj, rfl, HO2, hown2, hbel2⟩ := hrel
          have HBEL2 := Lib.hid hbel2
          have hok2 := mRow_ok x hx (b.take j) o HOK.out.1 (fun y hy => HBB.out y (List.mem_of_mem_take hy))
          rw [← HO2.out] at hok2
          obtain ⟨hok2, hol2⟩ := hok2
          have HOK2 := Lib.hid hok2; clear hok2
          have hol2' : o2.length ≤ 600 := by
            have h1 := HOK.out.2
            have h2 : k * b.length ≤ 24 * 24 := Nat.mul_le_mul (by omega) hb24
            have h3 := List.length_take_le j b
            omega
          clear hol2
          by_cases hlt2 : j < b.length
          · have HT2 := Lib.hid (mRow_take b o x j hlt2)
            have hy := HBB.out b[j] (List.getElem_mem hlt2)
            obtain ⟨b2, off2, rfl, _, hbs2, hd⟩ := hb.at' (by intro h; simp [h] at hlt2)
            have hbs1 : b1 < wr.heap.size := Nat.lt_of_lt_of_le hbs hbel2.size
            have hbs3 : b2 < wr.heap.size := Nat.lt_of_lt_of_le hbs2 hbel2.size
            have d1 := (hbel2.cell (p := ⟨b2, off2 + j * 2, none⟩) hbs2).trans (hd j hlt2).1
            have d2 := (hbel2.cell (p := ⟨b2, off2 + j * 2 + 1, none⟩) hbs2).trans (hd j hlt2).2
            have c1 := (hbel2.cell (p := ⟨b1, off + k * 2, none⟩) hbs).trans hc1
            have c2 := (hbel2.cell (p := ⟨b1, off + k * 2 + 1, none⟩) hbs).trans hc2
            clear hd hbel2
            generalize b[j] = y at *
            unfold Bd at hx hy
            have e1 : ∀ u, (wr.alloc u).cell? ⟨b1, off + k * 2, none⟩ = some (.int .i64 x.1) := fun u => later1 hbs1 c1
            have e2 : ∀ u, (wr.alloc u).cell? ⟨b1, off + k * 2 + 1, none⟩ = some (.int .i64 x.2) := fun u => later1 hbs1 c2
            have e3 : ∀ u, (wr.alloc u).cell? ⟨b2, off2 + j * 2, none⟩ = some (.int .i64 y.1) := fun u => later1 hbs3 d1
            have e4 : ∀ u, (wr.alloc u).cell? ⟨b2, off2 + j * 2 + 1, none⟩ = some (.int .i64 y.2) := fun u => later1 hbs3 d2
            have HMX := Lib.hid (show (if x.1 < y.1 then y.1 else x.1) = max x.1 y.1 by split <;> omega)
            have HMN := Lib.hid (show (if y.2 < x.2 then y.2 else x.2) = min x.2 y.2 by split <;> omega)
            have HSB := Lib.hid (Bd.meet (x := x) (y := y) hx hy)
            have HMS := Lib.hid (show mStep o2 x y = if max x.1 y.1 ≤ min x.2 y.2 then withS o2 (max x.1 y.1, min x.2 y.2) else o2 from rfl)
            go_wp2_with fail
            go_region
            rw [HMX.out, HMN.out]
            clear HMX HMN
            generalize max x.1 y.1 = lo at *
            generalize min x.2 y.2 = hi at *
            by_cases g : lo ≤ hi
            · have HMS2 : Hid (mStep o2 x y = withS o2 (lo, hi)) := by have := HMS.out; rw [if_pos g] at this; exact this
              obtain ⟨r, rc, rfl, hsp, _⟩ := hown2.reads (fit_of_bd HOK2.out) (by omega)
              have hsp' := hsp.below (((Below.refl _ wr).alloc (Nat.le_refl _) (.cells #[.int .i64 lo, .int .i64 hi] 23)).drew)
              clear hsp hown2
              go_wp2_with (go_at_call 43; refine (with_any r rc o2 (lo, hi) _ _ hsp' HOK2.out HSB.out (by omega)).mono ?_; rintro e w2 ⟨v2, rfl, hown3, hb3⟩)
              go_roundw
              case rel => exact ⟨j + 1, withS o2 (lo, hi), by omega, by go_num, by show _ = _; rw [HT2.out, ← HO2.out, HMS2.out], hown3.mono (Nat.le_trans HBEL2.out.size (by simp)), (HBEL2.out.alloc HBEL2.out.size _).drew.trans (hb3.mono (Nat.le_trans HBEL2.out.size (by simp)))⟩
              case measure => simp [intOf]; omega
            · have HMS2 : Hid (mStep o2 x y = o2) := by have := HMS.out; rw [if_neg g] at this; exact this
              go_wp2_with fail
              go_roundw
              case rel => exact ⟨j + 1, o2, by omega, by go_num, by show _ = _; rw [HT2.out, ← HO2.out, HMS2.out], (hown2.alloc _).drewN 1, (HBEL2.out.alloc HBEL2.out.size _).drew⟩
              case measure => simp [intOf]; omega
          · clear hbel2
            go_wp2_with fail
            go_roundw
            case rel => exact ⟨k + 1, o2, by omega, by go_num, by show _ = _; rw [HO2.out, List.take_of_length_le (by omega), HT.out, ← HO.out], hown2, HBEL2.out⟩
            case measure => simp [intOf]; omega
      · have HO' : Hid (o = meetC a b) := by have := HO.out; rw [List.take_of_length_le (by omega)] at this; exact this
        have hok := meetC_ok a b HA.out HBB.out
        have hlen : (meetC a b).length ≤ 24 * 24 := Nat.le_trans hok.2 (Nat.mul_le_mul ha24 hb24)
        obtain ⟨r, rc, rfl, hsp, _, hrc, _⟩ := hown.reads (by rw [HO'.out]; exact fit_of_bd hok.1) (by rw [HO'.out]; omega)
        have HOE := Lib.hid HO'.out
        have HL := Lib.hid (limE_no (show ¬ 4096 < (meetC a b).length by omega))
        have hol : o.length ≤ 24 * 24 := by rw [HO'.out]; exact hlen
        clear hbel hok hlen hown
        go_wp2_with fail
        refine (limited_any r rc o _ (by omega)).mono ?_
        rw [if_neg (by omega), show limE o = 0 by rw [HOE.out]; exact HL.out.1]
        rintro e w5 ⟨rfl, rfl⟩
        go_wp2_with fail
        go_ret2
        exact ⟨r, rc, by rw [HS.out, HE.out, HL.out.1, HL.out.2, ← HOE.out]; rfl, by rw [HS.out, HL.out.2, ← HOE.out]; exact hsp, hrc, HBEL.out⟩
  · have HS := Lib.hid (show meetS a b = [] by unfold meetS; rw [if_neg h])
    have HE := Lib.hid (show meetE a b = errLL a b by unfold meetE; rw [if_neg h])
    have h2 : (errLL a b != 0) = true := by simpa using h
    generalize hE : errLL a b = er at *
    have HER := Lib.hid hE; clear hE
    go_enter Try.func18, Try.ntmps18
    go_wp2_with fail
    refine (both_any p q cap cap' a b _ B B' ha hb).mono ?_
    rw [HER.out]
    rintro e w1 ⟨rfl, hb1⟩
    have HB := Lib.hid hb1
    clear hb1
    go_wp2_with fail
    go_ret2
    exact ⟨none, 0, by rw [HS.out, HE.out]; rfl, by rw [HS.out]; exact SpAt.nil, fun _ => rfl, HB.out⟩
end Go.Proofs.Ytdennlekjndfkaa
