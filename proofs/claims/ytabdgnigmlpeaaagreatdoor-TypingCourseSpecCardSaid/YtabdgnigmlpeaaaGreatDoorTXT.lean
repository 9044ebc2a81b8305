/- The specification's route: block 0. -/
import Derived.Test.YtabdgnigmlpeaaaGreatDoorTXQ
import Derived.Deep.RegionHeld3
import Derived.BigQuiet
namespace Go.Proofs.YtabdgnigmlpeaaaGreatDoor
open Go.RowKit

set_option maxHeartbeats 32000000 in
set_option maxRecDepth 100000 in
theorem rtA_any {Q : Exit → Act → World → Prop} {A : World} {B : Nat} (wr : World) {mats : List MatD} {N : List (Int × Int)} {R : List Int} {k rc bm om cm : Nat} {pm : Option Addr} {v0 v2 v3 v4 v5 v6 v7 v8 v9 v10 v11 v12 v13 v14 v15 : Value} (hl : R.length ≤ 1000) (hl2 : 2 ≤ R.length) (_ : mats.length ≤ 1000)
    (HC : Hid (∀ w', Below A.heap.size A w' → w'.cell? ⟨B, 0, none⟩ = some (v0) ∧ w'.cell? ⟨B, 1, none⟩ = some (.slice pm mats.length cm) ∧ w'.cell? ⟨B, 2, none⟩ = some (v2) ∧ w'.cell? ⟨B, 3, none⟩ = some (v3) ∧ w'.cell? ⟨B, 4, none⟩ = some (v4) ∧ w'.cell? ⟨B, 5, none⟩ = some (v5) ∧ w'.cell? ⟨B, 6, none⟩ = some (v6) ∧ w'.cell? ⟨B, 7, none⟩ = some (v7) ∧ w'.cell? ⟨B, 8, none⟩ = some (v8) ∧ w'.cell? ⟨B, 9, none⟩ = some (v9) ∧ w'.cell? ⟨B, 10, none⟩ = some (v10) ∧ w'.cell? ⟨B, 11, none⟩ = some (v11) ∧ w'.cell? ⟨B, 12, none⟩ = some (v12) ∧ w'.cell? ⟨B, 13, none⟩ = some (v13) ∧ w'.cell? ⟨B, 14, none⟩ = some (v14) ∧ w'.cell? ⟨B, 15, none⟩ = some (v15))) (HRd : Hid (∀ w', Below A.heap.size A w' → ∀ j (h : j < R.length), w'.cell? ⟨k, j, none⟩ = some (.int .i64 R[j])))
    (HM : Hid (∀ w', Below A.heap.size A w' → ∀ j (h : j < R.length), pm = some ⟨bm, om, none⟩ ∧ ∃ z : Nat, R[j] = (z : Int) ∧ z < mats.length ∧ w'.cell? ⟨bm, om + z * 2 + 1, none⟩ = some (.int .i64 (kindM mats R[j]))))
    (NL : Hid (∀ (f t : Int) W, Below A.heap.size A W → Calls Tryz.prog 100 #[.agg #[v0, .slice pm mats.length cm, v2, v3, v4, v5, v6, v7, v8, v9, v10, v11, v12, v13, v14, v15], .int .i64 f, .int .i64 t] W fun e w' => ∃ r : Int, e = .returned (.int .i64 r) ∧ decide (r < 0) = (N.count (f, t) == 0) ∧ Below W.heap.size W w'))
    {u0 u1 u3 u9 u10 u11 u12 u13 u14 u15 u16 u17 u18 u19 u20 u62 u63 u64 u65 u66 u67 u68 u69 u70 u71 u72 u73 u74 u75 u76 u77 u78 u79 u80 u81 u82 u83 u84 u85 u86 u87 u88 u89 u90 u91 u92 u93 u94 u95 u96 u97 u98 u99 u100 u101 u102 u103 u104 u105 u106 u107 u108 u109 u110 u111 u112 u4 y8 y21 y22 y23 y24 y25 y26 y27 y28 y29 y30 y31 y32 y33 y34 y35 y36 y37 y38 y39 y40 y41 y42 y43 y44 y45 y46 y47 y48 y49 y50 y51 y52 y53 y54 y55 y56 y57 y58 y59 y60 y61 : Value}
    (hQ : ∀ (z4 z7 z8 z21 z22 z23 z24 z25 z26 z27 z28 z29 z30 z31 z32 z33 z34 z35 z36 z37 z38 z39 z40 z41 z42 z43 z44 z45 z46 z47 z48 z49 z50 z51 z52 z53 z54 z55 z56 z57 z58 z59 z60 z61 : Value) (w' : World), rtOk mats N R = true → Hid (Below A.heap.size A w') → Q .normal ⟨#[u0, u1, .pointer (some ⟨B, 0, none⟩), u3, z4, .slice (some ⟨k, 0, none⟩) R.length rc, .int .i64 (R.length : Int), z7, z8, u9, u10, u11, u12, u13, u14, u15, u16, u17, u18, u19, u20, z21, z22, z23, z24, z25, z26, z27, z28, z29, z30, z31, z32, z33, z34, z35, z36, z37, z38, z39, z40, z41, z42, z43, z44, z45, z46, z47, z48, z49, z50, z51, z52, z53, z54, z55, z56, z57, z58, z59, z60, z61, u62, u63, u64, u65, u66, u67, u68, u69, u70, u71, u72, u73, u74, u75, u76, u77, u78, u79, u80, u81, u82, u83, u84, u85, u86, u87, u88, u89, u90, u91, u92, u93, u94, u95, u96, u97, u98, u99, u100, u101, u102, u103, u104, u105, u106, u107, u108, u109, u110, u111, u112], []⟩ w')
    (hR : ∀ (z7 z8 z21 z22 z23 z24 z25 z26 z27 z28 z29 z30 z31 z32 z33 z34 z35 z36 z37 z38 z39 z40 z41 z42 z43 z44 z45 z46 z47 z48 z49 z50 z51 z52 z53 z54 z55 z56 z57 z58 z59 z60 z61 : Value) (w' : World), rtOk mats N R = false → Hid (Below A.heap.size A w') → Q .ret ⟨#[u0, u1, .pointer (some ⟨B, 0, none⟩), u3, .bool false, .slice (some ⟨k, 0, none⟩) R.length rc, .int .i64 (R.length : Int), z7, z8, u9, u10, u11, u12, u13, u14, u15, u16, u17, u18, u19, u20, z21, z22, z23, z24, z25, z26, z27, z28, z29, z30, z31, z32, z33, z34, z35, z36, z37, z38, z39, z40, z41, z42, z43, z44, z45, z46, z47, z48, z49, z50, z51, z52, z53, z54, z55, z56, z57, z58, z59, z60, z61, u62, u63, u64, u65, u66, u67, u68, u69, u70, u71, u72, u73, u74, u75, u76, u77, u78, u79, u80, u81, u82, u83, u84, u85, u86, u87, u88, u89, u90, u91, u92, u93, u94, u95, u96, u97, u98, u99, u100, u101, u102, u103, u104, u105, u106, u107, u108, u109, u110, u111, u112], []⟩ w') (HB0 : Hid (Below A.heap.size A wr)) :
    Code.wp Tryz.prog (rtB 0) Q ⟨#[u0, u1, .pointer (some ⟨B, 0, none⟩), u3, u4, .slice (some ⟨k, 0, none⟩) R.length rc, .int .i64 (R.length : Int), .int .i64 0, y8, u9, u10, u11, u12, u13, u14, u15, u16, u17, u18, u19, u20, y21, y22, y23, y24, y25, y26, y27, y28, y29, y30, y31, y32, y33, y34, y35, y36, y37, y38, y39, y40, y41, y42, y43, y44, y45, y46, y47, y48, y49, y50, y51, y52, y53, y54, y55, y56, y57, y58, y59, y60, y61, u62, u63, u64, u65, u66, u67, u68, u69, u70, u71, u72, u73, u74, u75, u76, u77, u78, u79, u80, u81, u82, u83, u84, u85, u86, u87, u88, u89, u90, u91, u92, u93, u94, u95, u96, u97, u98, u99, u100, u101, u102, u103, u104, u105, u106, u107, u108, u109, u110, u111, u112], []⟩ wr := by
  have HQ := Lib.hid hQ
  have HR := Lib.hid hR
  have H0 : Hid (∀ z, z < 0 → ∃ h : z < R.length, kindM mats R[z] = kindP (z : Int) ((R.length : Int) - 1) ∧ (∀ y (hy : y + 1 = z), N.count (R[y]'(by omega), R[z]) ≠ 0)) := Lib.hid fun z hz => absurd hz (by omega)
  have hn1 : IntKind.i64.wrap ((R.length : Int) - 1) = (R.length : Int) - 1 := IntWalk.i64_in _ (by omega)
  clear hQ hR
  conv => arg 2; whnf
  dsimp only
  go_wp2_with fail
  go_loopw [7] (fun i wr => ∃ j : Nat, j ≤ R.length ∧ i = .int .i64 j ∧ Hid (∀ z, z < j → ∃ h : z < R.length, kindM mats R[z] = kindP (z : Int) ((R.length : Int) - 1) ∧ (∀ y (hy : y + 1 = z), N.count (R[y]'(by omega), R[z]) ≠ 0)) ∧ Hid (Below A.heap.size A wr)) (fun i _ => R.length - (intOf i).toNat)
  case atStart => exact ⟨0, Nat.zero_le _, rfl, H0, HB0⟩
  case round =>
    obtain ⟨j, hj, rfl, HI, HB⟩ := hrel
    clear H0 HB0
    by_cases hlt : j < R.length
    · have hji : (j : Int) < (R.length : Int) := by omega
      have f16 := HC.out _ HB.out
      obtain ⟨rfl, x, hx, hxl, m0⟩ := HM.out _ HB.out j hlt
      have hxi : (x : Int) < (mats.length : Int) := by omega
      have r0 := HRd.out _ HB.out j hlt
      obtain ⟨km, hkm⟩ : ∃ km, kindM mats R[j] = km := ⟨_, rfl⟩
      rw [hkm] at m0
      rw [hx] at r0
      have HK := Lib.hid hkm
      have HXv := Lib.hid hx
      obtain ⟨g0, g1, g2, g3, g4, g5, g6, g7, g8, g9, g10, g11, g12, g13, g14, g15⟩ := f16
      clear hkm hx HM
      cases j with
      | zero =>
        have p0 : kindP ((0 : Nat) : Int) ((R.length : Int) - 1) = 1 := rfl
        have e0 : ((0 : Int) == (R.length : Int) - 1) = false := by simp; omega
        by_cases h1 : km = 1
        · have k1 : (km != 1) = false := by simpa using h1
          have HI2 : Hid (∀ z, z < 1 → ∃ h : z < R.length, kindM mats R[z] = kindP (z : Int) ((R.length : Int) - 1) ∧ (∀ y (hy : y + 1 = z), N.count (R[y]'(by omega), R[z]) ≠ 0)) := Lib.hid fun z hz => by
            obtain rfl : z = 0 := by omega
            exact ⟨hlt, by rw [HK.out, h1, p0], fun y hy => by omega⟩
          clear h1 HI
          go_upto_region 14 with (fail)
          go_quiet (fail)
          go_wp2_with fail
          go_round
          case rel => exact ⟨1, by omega, by go_num, HI2, Lib.hid (bel_drewN HB.out _)⟩
          case measure => simp [intOf]; omega
        · have k1 : (km != 1) = true := by simpa using h1
          have hT := rtOk_kind (N := N) hlt (by rw [HK.out, p0]; exact h1)
          have HTT := Lib.hid hT
          clear h1 HI hT
          go_upto_region 14 with (fail)
          go_quiet (fail)
          go_wp2_with fail
          exact HR.out _ _ _ _ _ _ _ _ _ _ _ _ _ _ _ _ _ _ _ _ _ _ _ _ _ _ _ _ _ _ _ _ _ _ _ _ _ _ _ _ _ _ _ _ HTT.out (Lib.hid (bel_drewN HB.out _))
      | succ j =>
        have r1 := HRd.out _ HB.out j (by omega)
        obtain ⟨pv, hpv⟩ : ∃ pv, R[j]'(by omega) = pv := ⟨_, rfl⟩
        rw [hpv] at r1
        have HPv : Hid (∀ h : j < R.length, R[j] = pv) := Lib.hid fun _ => hpv
        clear hpv
        have HX : Hid (∀ w', Below wr.heap.size wr w' → w'.cell? ⟨B, 0, none⟩ = some (v0) ∧ w'.cell? ⟨B, 1, none⟩ = some (.slice (some ⟨bm, om, none⟩) mats.length cm) ∧ w'.cell? ⟨B, 2, none⟩ = some (v2) ∧ w'.cell? ⟨B, 3, none⟩ = some (v3) ∧ w'.cell? ⟨B, 4, none⟩ = some (v4) ∧ w'.cell? ⟨B, 5, none⟩ = some (v5) ∧ w'.cell? ⟨B, 6, none⟩ = some (v6) ∧ w'.cell? ⟨B, 7, none⟩ = some (v7) ∧ w'.cell? ⟨B, 8, none⟩ = some (v8) ∧ w'.cell? ⟨B, 9, none⟩ = some (v9) ∧ w'.cell? ⟨B, 10, none⟩ = some (v10) ∧ w'.cell? ⟨B, 11, none⟩ = some (v11) ∧ w'.cell? ⟨B, 12, none⟩ = some (v12) ∧ w'.cell? ⟨B, 13, none⟩ = some (v13) ∧ w'.cell? ⟨B, 14, none⟩ = some (v14) ∧ w'.cell? ⟨B, 15, none⟩ = some (v15) ∧ w'.cell? ⟨k, j + 1, none⟩ = some (.int .i64 (x : Int)) ∧ w'.cell? ⟨k, j, none⟩ = some (.int .i64 pv) ∧ w'.cell? ⟨bm, om + x * 2 + 1, none⟩ = some (.int .i64 km) ∧ Hid (Below wr.heap.size wr w')) := Lib.hid fun w' hb => ⟨keepc hb g0, keepc hb g1, keepc hb g2, keepc hb g3, keepc hb g4, keepc hb g5, keepc hb g6, keepc hb g7, keepc hb g8, keepc hb g9, keepc hb g10, keepc hb g11, keepc hb g12, keepc hb g13, keepc hb g14, keepc hb g15, keepc hb r0, keepc hb r1, keepc hb m0, Lib.hid hb⟩
        have HB1 := Lib.hid (Below.refl wr.heap.size wr)
        have HD := Lib.hid (Below.refl wr.heap.size wr).drew
        have HLW : Hid (∀ w', Below wr.heap.size wr w' → Below A.heap.size A w') := Lib.hid fun w' hb => HB.out.trans (hb.mono HB.out.size)
        have NL0 : Hid (N.count (pv, (x : Int)) = 0 → ∀ W, Below wr.heap.size wr W → Calls Tryz.prog 100 #[.agg #[v0, .slice (some ⟨bm, om, none⟩) mats.length cm, v2, v3, v4, v5, v6, v7, v8, v9, v10, v11, v12, v13, v14, v15], .int .i64 pv, .int .i64 (x : Int)] W fun e w' => ∃ r : Int, e = .returned (.int .i64 r) ∧ r < 0 ∧ Hid (Below wr.heap.size wr w')) := Lib.hid fun h0 W hW => (NL.out pv x W (HLW.out W hW)).mono fun e w' h => by
          obtain ⟨r, he, h1, h2⟩ := h
          rw [h0] at h1
          exact ⟨r, he, of_decide_eq_true h1, Lib.hid (hW.trans (h2.mono hW.size))⟩
        have NL1 : Hid (N.count (pv, (x : Int)) ≠ 0 → ∀ W, Below wr.heap.size wr W → Calls Tryz.prog 100 #[.agg #[v0, .slice (some ⟨bm, om, none⟩) mats.length cm, v2, v3, v4, v5, v6, v7, v8, v9, v10, v11, v12, v13, v14, v15], .int .i64 pv, .int .i64 (x : Int)] W fun e w' => ∃ r : Int, e = .returned (.int .i64 r) ∧ ¬ r < 0 ∧ Hid (Below wr.heap.size wr w')) := Lib.hid fun h0 W hW => (NL.out pv x W (HLW.out W hW)).mono fun e w' h => by
          obtain ⟨r, he, h1, h2⟩ := h
          have h3 : (N.count (pv, (x : Int)) == 0) = false := by simpa using h0
          rw [h3] at h1
          exact ⟨r, he, of_decide_eq_false h1, Lib.hid (hW.trans (h2.mono hW.size))⟩
        have ej : ((j : Int) + 1 == 0) = false := by simp; omega
        have hgt : 0 < (j : Int) + 1 := by omega
        have hb1a : (0 : Int) ≤ (j : Int) + 1 := by omega
        have hb1b : (j : Int) + 1 < (R.length : Int) := by omega
        have hb1c : (0 : Int) ≤ (j : Int) := by omega
        have hb1d : (j : Int) < (R.length : Int) := by omega
        have hb1e : ((j : Int) + 1).toNat = j + 1 := by omega
        have hb1f : IntKind.i64.wrap ((j : Int) + 1 - 1) = (j : Int) := by rw [IntWalk.i64_in _ (by omega)]; omega
        have hb1g : IntKind.i64.wrap (j : Int) = (j : Int) := IntWalk.i64_in _ (by omega)
        clear NL HC HRd
        by_cases hlast : j + 1 = R.length - 1
        · have el : ((j : Int) + 1 == (R.length : Int) - 1) = true := by simp; omega
          have p0 : Hid (kindP ((j + 1 : Nat) : Int) ((R.length : Int) - 1) = 3) := Lib.hid (by unfold kindP; rw [if_neg (by omega), if_pos (by omega)])
          clear hlast
          by_cases h1 : km = 3
          · have k1 : (km != 3) = false := by simpa using h1
            by_cases h2 : N.count (pv, (x : Int)) = 0
            · have HTT : Hid (rtOk mats N R = false) := Lib.hid (rtOk_leg hlt (by rw [HPv.out, HXv.out]; exact h2))
              have NLL := Lib.hid (NL0.out h2)
              clear h1 h2 HI NL0 NL1
              go_upto_region 14 with (fail)
              go_region_held3 (fun w' => w'.cell? ⟨B, 0, none⟩ = some (v0) ∧ w'.cell? ⟨B, 1, none⟩ = some (.slice (some ⟨bm, om, none⟩) mats.length cm) ∧ w'.cell? ⟨B, 2, none⟩ = some (v2) ∧ w'.cell? ⟨B, 3, none⟩ = some (v3) ∧ w'.cell? ⟨B, 4, none⟩ = some (v4) ∧ w'.cell? ⟨B, 5, none⟩ = some (v5) ∧ w'.cell? ⟨B, 6, none⟩ = some (v6) ∧ w'.cell? ⟨B, 7, none⟩ = some (v7) ∧ w'.cell? ⟨B, 8, none⟩ = some (v8) ∧ w'.cell? ⟨B, 9, none⟩ = some (v9) ∧ w'.cell? ⟨B, 10, none⟩ = some (v10) ∧ w'.cell? ⟨B, 11, none⟩ = some (v11) ∧ w'.cell? ⟨B, 12, none⟩ = some (v12) ∧ w'.cell? ⟨B, 13, none⟩ = some (v13) ∧ w'.cell? ⟨B, 14, none⟩ = some (v14) ∧ w'.cell? ⟨B, 15, none⟩ = some (v15) ∧ w'.cell? ⟨k, j + 1, none⟩ = some (.int .i64 (x : Int)) ∧ w'.cell? ⟨k, j, none⟩ = some (.int .i64 pv) ∧ w'.cell? ⟨bm, om + x * 2 + 1, none⟩ = some (.int .i64 km) ∧ Hid (Below wr.heap.size wr w'))
                (first
                  | with_reducible exact HX.out _ HD.out
                  | with_reducible exact HX.out _ HB1.out
                  | with_reducible exact HX.out _ hb1.out
                  | assumption | go_keep)
                ((go_at_call 100; with_reducible refine (NLL.out _ (held19h (by assumption))).mono ?_; rintro e w' ⟨r, rfl, hr, hb1⟩))
              all_goals
                go_wp2_with fail
                exact HR.out _ _ _ _ _ _ _ _ _ _ _ _ _ _ _ _ _ _ _ _ _ _ _ _ _ _ _ _ _ _ _ _ _ _ _ _ _ _ _ _ _ _ _ _ HTT.out (Lib.hid (HLW.out _ hb1.out))
            · have HI2 : Hid (∀ z, z < j + 1 + 1 → ∃ h : z < R.length, kindM mats R[z] = kindP (z : Int) ((R.length : Int) - 1) ∧ (∀ y (hy : y + 1 = z), N.count (R[y]'(by omega), R[z]) ≠ 0)) := Lib.hid fun z hz => by
                by_cases hzk : z = j + 1
                · subst hzk
                  exact ⟨hlt, by rw [HK.out, h1, p0.out], fun y hy => by
                    obtain rfl : y = j := by omega
                    rw [HPv.out, HXv.out]; exact h2⟩
                · exact HI.out z (by omega)
              have NLL := Lib.hid (NL1.out h2)
              clear h1 h2 HI NL0 NL1
              go_upto_region 14 with (fail)
              go_region_held3 (fun w' => w'.cell? ⟨B, 0, none⟩ = some (v0) ∧ w'.cell? ⟨B, 1, none⟩ = some (.slice (some ⟨bm, om, none⟩) mats.length cm) ∧ w'.cell? ⟨B, 2, none⟩ = some (v2) ∧ w'.cell? ⟨B, 3, none⟩ = some (v3) ∧ w'.cell? ⟨B, 4, none⟩ = some (v4) ∧ w'.cell? ⟨B, 5, none⟩ = some (v5) ∧ w'.cell? ⟨B, 6, none⟩ = some (v6) ∧ w'.cell? ⟨B, 7, none⟩ = some (v7) ∧ w'.cell? ⟨B, 8, none⟩ = some (v8) ∧ w'.cell? ⟨B, 9, none⟩ = some (v9) ∧ w'.cell? ⟨B, 10, none⟩ = some (v10) ∧ w'.cell? ⟨B, 11, none⟩ = some (v11) ∧ w'.cell? ⟨B, 12, none⟩ = some (v12) ∧ w'.cell? ⟨B, 13, none⟩ = some (v13) ∧ w'.cell? ⟨B, 14, none⟩ = some (v14) ∧ w'.cell? ⟨B, 15, none⟩ = some (v15) ∧ w'.cell? ⟨k, j + 1, none⟩ = some (.int .i64 (x : Int)) ∧ w'.cell? ⟨k, j, none⟩ = some (.int .i64 pv) ∧ w'.cell? ⟨bm, om + x * 2 + 1, none⟩ = some (.int .i64 km) ∧ Hid (Below wr.heap.size wr w'))
                (first
                  | with_reducible exact HX.out _ HD.out
                  | with_reducible exact HX.out _ HB1.out
                  | with_reducible exact HX.out _ hb1.out
                  | assumption | go_keep)
                ((go_at_call 100; with_reducible refine (NLL.out _ (held19h (by assumption))).mono ?_; rintro e w' ⟨r, rfl, hr, hb1⟩))
              all_goals
                go_wp2_with fail
                go_round
                case rel => exact ⟨j + 1 + 1, by omega, by go_num, HI2, Lib.hid (HLW.out _ hb1.out)⟩
                case measure => simp [intOf]; omega
          · have k1 : (km != 3) = true := by simpa using h1
            have HTT : Hid (rtOk mats N R = false) := Lib.hid (rtOk_kind hlt (by rw [HK.out, p0.out]; exact h1))
            clear h1 HI NL0 NL1
            go_upto_region 14 with (fail)
            go_quiet (fail)
            go_wp2_with fail
            exact HR.out _ _ _ _ _ _ _ _ _ _ _ _ _ _ _ _ _ _ _ _ _ _ _ _ _ _ _ _ _ _ _ _ _ _ _ _ _ _ _ _ _ _ _ _ HTT.out (Lib.hid (bel_drewN HB.out _))
        · have el : ((j : Int) + 1 == (R.length : Int) - 1) = false := by simp; omega
          have p0 : Hid (kindP ((j + 1 : Nat) : Int) ((R.length : Int) - 1) = 2) := Lib.hid (by unfold kindP; rw [if_neg (by omega), if_neg (by omega)])
          clear hlast
          by_cases h1 : km = 2
          · have k1 : (km != 2) = false := by simpa using h1
            by_cases h2 : N.count (pv, (x : Int)) = 0
            · have HTT : Hid (rtOk mats N R = false) := Lib.hid (rtOk_leg hlt (by rw [HPv.out, HXv.out]; exact h2))
              have NLL := Lib.hid (NL0.out h2)
              clear h1 h2 HI NL0 NL1
              go_upto_region 14 with (fail)
              go_region_held3 (fun w' => w'.cell? ⟨B, 0, none⟩ = some (v0) ∧ w'.cell? ⟨B, 1, none⟩ = some (.slice (some ⟨bm, om, none⟩) mats.length cm) ∧ w'.cell? ⟨B, 2, none⟩ = some (v2) ∧ w'.cell? ⟨B, 3, none⟩ = some (v3) ∧ w'.cell? ⟨B, 4, none⟩ = some (v4) ∧ w'.cell? ⟨B, 5, none⟩ = some (v5) ∧ w'.cell? ⟨B, 6, none⟩ = some (v6) ∧ w'.cell? ⟨B, 7, none⟩ = some (v7) ∧ w'.cell? ⟨B, 8, none⟩ = some (v8) ∧ w'.cell? ⟨B, 9, none⟩ = some (v9) ∧ w'.cell? ⟨B, 10, none⟩ = some (v10) ∧ w'.cell? ⟨B, 11, none⟩ = some (v11) ∧ w'.cell? ⟨B, 12, none⟩ = some (v12) ∧ w'.cell? ⟨B, 13, none⟩ = some (v13) ∧ w'.cell? ⟨B, 14, none⟩ = some (v14) ∧ w'.cell? ⟨B, 15, none⟩ = some (v15) ∧ w'.cell? ⟨k, j + 1, none⟩ = some (.int .i64 (x : Int)) ∧ w'.cell? ⟨k, j, none⟩ = some (.int .i64 pv) ∧ w'.cell? ⟨bm, om + x * 2 + 1, none⟩ = some (.int .i64 km) ∧ Hid (Below wr.heap.size wr w'))
                (first
                  | with_reducible exact HX.out _ HD.out
                  | with_reducible exact HX.out _ HB1.out
                  | with_reducible exact HX.out _ hb1.out
                  | assumption | go_keep)
                ((go_at_call 100; with_reducible refine (NLL.out _ (held19h (by assumption))).mono ?_; rintro e w' ⟨r, rfl, hr, hb1⟩))
              all_goals
                go_wp2_with fail
                exact HR.out _ _ _ _ _ _ _ _ _ _ _ _ _ _ _ _ _ _ _ _ _ _ _ _ _ _ _ _ _ _ _ _ _ _ _ _ _ _ _ _ _ _ _ _ HTT.out (Lib.hid (HLW.out _ hb1.out))
            · have HI2 : Hid (∀ z, z < j + 1 + 1 → ∃ h : z < R.length, kindM mats R[z] = kindP (z : Int) ((R.length : Int) - 1) ∧ (∀ y (hy : y + 1 = z), N.count (R[y]'(by omega), R[z]) ≠ 0)) := Lib.hid fun z hz => by
                by_cases hzk : z = j + 1
                · subst hzk
                  exact ⟨hlt, by rw [HK.out, h1, p0.out], fun y hy => by
                    obtain rfl : y = j := by omega
                    rw [HPv.out, HXv.out]; exact h2⟩
                · exact HI.out z (by omega)
              have NLL := Lib.hid (NL1.out h2)
              clear h1 h2 HI NL0 NL1
              go_upto_region 14 with (fail)
              go_region_held3 (fun w' => w'.cell? ⟨B, 0, none⟩ = some (v0) ∧ w'.cell? ⟨B, 1, none⟩ = some (.slice (some ⟨bm, om, none⟩) mats.length cm) ∧ w'.cell? ⟨B, 2, none⟩ = some (v2) ∧ w'.cell? ⟨B, 3, none⟩ = some (v3) ∧ w'.cell? ⟨B, 4, none⟩ = some (v4) ∧ w'.cell? ⟨B, 5, none⟩ = some (v5) ∧ w'.cell? ⟨B, 6, none⟩ = some (v6) ∧ w'.cell? ⟨B, 7, none⟩ = some (v7) ∧ w'.cell? ⟨B, 8, none⟩ = some (v8) ∧ w'.cell? ⟨B, 9, none⟩ = some (v9) ∧ w'.cell? ⟨B, 10, none⟩ = some (v10) ∧ w'.cell? ⟨B, 11, none⟩ = some (v11) ∧ w'.cell? ⟨B, 12, none⟩ = some (v12) ∧ w'.cell? ⟨B, 13, none⟩ = some (v13) ∧ w'.cell? ⟨B, 14, none⟩ = some (v14) ∧ w'.cell? ⟨B, 15, none⟩ = some (v15) ∧ w'.cell? ⟨k, j + 1, none⟩ = some (.int .i64 (x : Int)) ∧ w'.cell? ⟨k, j, none⟩ = some (.int .i64 pv) ∧ w'.cell? ⟨bm, om + x * 2 + 1, none⟩ = some (.int .i64 km) ∧ Hid (Below wr.heap.size wr w'))
                (first
                  | with_reducible exact HX.out _ HD.out
                  | with_reducible exact HX.out _ HB1.out
                  | with_reducible exact HX.out _ hb1.out
                  | assumption | go_keep)
                ((go_at_call 100; with_reducible refine (NLL.out _ (held19h (by assumption))).mono ?_; rintro e w' ⟨r, rfl, hr, hb1⟩))
              all_goals
                go_wp2_with fail
                go_round
                case rel => exact ⟨j + 1 + 1, by omega, by go_num, HI2, Lib.hid (HLW.out _ hb1.out)⟩
                case measure => simp [intOf]; omega
          · have k1 : (km != 2) = true := by simpa using h1
            have HTT : Hid (rtOk mats N R = false) := Lib.hid (rtOk_kind hlt (by rw [HK.out, p0.out]; exact h1))
            clear h1 HI NL0 NL1
            go_upto_region 14 with (fail)
            go_quiet (fail)
            go_wp2_with fail
            exact HR.out _ _ _ _ _ _ _ _ _ _ _ _ _ _ _ _ _ _ _ _ _ _ _ _ _ _ _ _ _ _ _ _ _ _ _ _ _ _ _ _ _ _ _ _ HTT.out (Lib.hid (bel_drewN HB.out _))
    · have hji : ¬ (j : Int) < (R.length : Int) := by omega
      have hT := rtOk_yes (mats := mats) (N := N) (R := R) fun z hz => HI.out z (by omega)
      have HTT := Lib.hid hT
      clear HI hT HC HRd HM NL
      go_wp2_with fail
      exact HQ.out _ _ _ _ _ _ _ _ _ _ _ _ _ _ _ _ _ _ _ _ _ _ _ _ _ _ _ _ _ _ _ _ _ _ _ _ _ _ _ _ _ _ _ _ _ HTT.out HB
end Go.Proofs.YtabdgnigmlpeaaaGreatDoor
/- The specification's route: block 3. -/
namespace Go.Proofs.YtabdgnigmlpeaaaGreatDoor
open Go.RowKit

set_option maxHeartbeats 32000000 in
set_option maxRecDepth 100000 in
theorem rtB_any {Q : Exit → Act → World → Prop} {A : World} {B : Nat} (wr : World) {R : List Int} {l : List CutD} {k rc b off cap : Nat} {p : Option Addr} (hl : l.length ≤ 1000)
    (HF : Hid (∀ w', Below A.heap.size A w' → w'.cell? ⟨B, 3, none⟩ = some (.slice p l.length cap))) (HE : Hid (∀ w', Below A.heap.size A w' → ∀ j (h : j < l.length), p = some ⟨b, off, none⟩ ∧ w'.cell? ⟨b, off + j * 3, none⟩ = some (.int .i64 l[j].m) ∧ w'.cell? ⟨b, off + j * 3 + 1, none⟩ = some (.int .i64 l[j].l)))
    (NO : Hid (∀ (n : Int) W, Below A.heap.size A W → Calls Tryz.prog 101 #[.slice (some ⟨k, 0, none⟩) R.length rc, .int .i64 n] W fun e w' => e = .returned (.int .i64 (R.count n : Nat)) ∧ Below W.heap.size W w'))
    {u0 u1 u2 u6 u7 u8 u10 u11 u12 u13 u14 u15 u16 u17 u18 u19 u20 u21 u22 u23 u24 u25 u26 u27 u28 u29 u30 u31 u32 u33 u34 u35 u36 u37 u38 u39 u40 u41 u42 u43 u44 u45 u46 u47 u48 u49 u50 u51 u52 u53 u54 u55 u56 u57 u58 u59 u60 u61 u62 u63 u64 u65 u66 u67 u68 u69 u70 u71 u72 u73 u74 u75 u76 u77 u78 u79 u80 u81 u82 u83 u84 u85 u86 u87 u88 u89 u90 u4 y91 y92 y93 y94 y95 y96 y97 y98 y99 y100 y101 y102 y103 y104 y105 y106 y107 y108 y109 y110 y111 y112 : Value}
    (hQ : ∀ (z4 z9 z91 z92 z93 z94 z95 z96 z97 z98 z99 z100 z101 z102 z103 z104 z105 z106 z107 z108 z109 z110 z111 z112 : Value) (w' : World), l.all (fun z => decide (z.l ≤ (R.count z.m : Nat))) = true → Hid (Below A.heap.size A w') → Q .normal ⟨#[u0, u1, u2, .pointer (some ⟨B, 0, none⟩), z4, .slice (some ⟨k, 0, none⟩) R.length rc, u6, u7, u8, z9, u10, u11, u12, u13, u14, u15, u16, u17, u18, u19, u20, u21, u22, u23, u24, u25, u26, u27, u28, u29, u30, u31, u32, u33, u34, u35, u36, u37, u38, u39, u40, u41, u42, u43, u44, u45, u46, u47, u48, u49, u50, u51, u52, u53, u54, u55, u56, u57, u58, u59, u60, u61, u62, u63, u64, u65, u66, u67, u68, u69, u70, u71, u72, u73, u74, u75, u76, u77, u78, u79, u80, u81, u82, u83, u84, u85, u86, u87, u88, u89, u90, z91, z92, z93, z94, z95, z96, z97, z98, z99, z100, z101, z102, z103, z104, z105, z106, z107, z108, z109, z110, z111, z112], []⟩ w')
    (hR : ∀ (z9 z91 z92 z93 z94 z95 z96 z97 z98 z99 z100 z101 z102 z103 z104 z105 z106 z107 z108 z109 z110 z111 z112 : Value) (w' : World), l.all (fun z => decide (z.l ≤ (R.count z.m : Nat))) = false → Hid (Below A.heap.size A w') → Q .ret ⟨#[u0, u1, u2, .pointer (some ⟨B, 0, none⟩), .bool false, .slice (some ⟨k, 0, none⟩) R.length rc, u6, u7, u8, z9, u10, u11, u12, u13, u14, u15, u16, u17, u18, u19, u20, u21, u22, u23, u24, u25, u26, u27, u28, u29, u30, u31, u32, u33, u34, u35, u36, u37, u38, u39, u40, u41, u42, u43, u44, u45, u46, u47, u48, u49, u50, u51, u52, u53, u54, u55, u56, u57, u58, u59, u60, u61, u62, u63, u64, u65, u66, u67, u68, u69, u70, u71, u72, u73, u74, u75, u76, u77, u78, u79, u80, u81, u82, u83, u84, u85, u86, u87, u88, u89, u90, z91, z92, z93, z94, z95, z96, z97, z98, z99, z100, z101, z102, z103, z104, z105, z106, z107, z108, z109, z110, z111, z112], []⟩ w') (HB0 : Hid (Below A.heap.size A wr)) :
    Code.wp Tryz.prog (rtB 3) Q ⟨#[u0, u1, u2, .pointer (some ⟨B, 0, none⟩), u4, .slice (some ⟨k, 0, none⟩) R.length rc, u6, u7, u8, .int .i64 0, u10, u11, u12, u13, u14, u15, u16, u17, u18, u19, u20, u21, u22, u23, u24, u25, u26, u27, u28, u29, u30, u31, u32, u33, u34, u35, u36, u37, u38, u39, u40, u41, u42, u43, u44, u45, u46, u47, u48, u49, u50, u51, u52, u53, u54, u55, u56, u57, u58, u59, u60, u61, u62, u63, u64, u65, u66, u67, u68, u69, u70, u71, u72, u73, u74, u75, u76, u77, u78, u79, u80, u81, u82, u83, u84, u85, u86, u87, u88, u89, u90, y91, y92, y93, y94, y95, y96, y97, y98, y99, y100, y101, y102, y103, y104, y105, y106, y107, y108, y109, y110, y111, y112], []⟩ wr := by
  have HQ := Lib.hid hQ
  have HR := Lib.hid hR
  obtain ⟨T, hT⟩ : ∃ T, l.all (fun z => decide (z.l ≤ (R.count z.m : Nat))) = T := ⟨_, rfl⟩
  rw [hT] at HQ HR
  have H0 : Hid ((l.drop 0).all (fun z => decide (z.l ≤ (R.count z.m : Nat))) = T) := Lib.hid (by rw [List.drop_zero]; exact hT)
  clear hQ hR hT
  conv => arg 2; whnf
  dsimp only
  go_wp2_with fail
  go_loopw [9] (fun i wr => ∃ j : Nat, j ≤ l.length ∧ i = .int .i64 j ∧ Hid ((l.drop j).all (fun z => decide (z.l ≤ (R.count z.m : Nat))) = T) ∧ Hid (Below A.heap.size A wr)) (fun i _ => l.length - (intOf i).toNat)
  case atStart => exact ⟨0, Nat.zero_le _, rfl, H0, HB0⟩
  case round =>
    obtain ⟨j, hj, rfl, HI, HB⟩ := hrel
    clear H0 HB0
    have f1 := HF.out _ HB.out
    by_cases hlt : j < l.length
    · have hji : (j : Int) < (l.length : Int) := by omega
      obtain ⟨rfl, a0, a1⟩ := HE.out _ HB.out j hlt
      have hI := HI.out
      rw [(List.getElem_cons_drop hlt).symm, List.all_cons] at hI
      clear HE HI
      generalize l[j] = z at *
      obtain ⟨zm, zl, zi⟩ := z
      simp only at *
      have HX : Hid (∀ w', Below wr.heap.size wr w' → w'.cell? ⟨B, 3, none⟩ = some (.slice (some ⟨b, off, none⟩) l.length cap) ∧ w'.cell? ⟨b, off + j * 3, none⟩ = some (.int .i64 zm) ∧ w'.cell? ⟨b, off + j * 3 + 1, none⟩ = some (.int .i64 zl) ∧ Hid (Below wr.heap.size wr w')) := Lib.hid fun w' hb => ⟨keepc hb f1, keepc hb a0, keepc hb a1, Lib.hid hb⟩
      have HB1 := Lib.hid (Below.refl wr.heap.size wr)
      have HD := Lib.hid (Below.refl wr.heap.size wr).drew
      have HLW : Hid (∀ w', Below wr.heap.size wr w' → Below A.heap.size A w') := Lib.hid fun w' hb => HB.out.trans (hb.mono HB.out.size)
      have NO0 : Hid (∀ W, Below wr.heap.size wr W → Calls Tryz.prog 101 #[.slice (some ⟨k, 0, none⟩) R.length rc, .int .i64 zm] W fun e w' => e = .returned (.int .i64 (R.count zm : Nat)) ∧ Hid (Below wr.heap.size wr w')) := Lib.hid fun W hW => (NO.out zm W (HLW.out W hW)).mono fun e w' h => ⟨h.1, Lib.hid (hW.trans (h.2.mono hW.size))⟩
      clear NO
      generalize R.count zm = m at *
      by_cases h1 : zl ≤ (m : Int)
      · have k1 : ¬ (m : Int) < zl := by omega
        have HI2 : Hid ((l.drop (j + 1)).all (fun z => decide (z.l ≤ (R.count z.m : Nat))) = T) := Lib.hid (by rw [← hI, decide_eq_true h1]; rfl)
        clear hI h1
        go_upto_region 21 with (fail)
        go_region_held3 (fun w' => w'.cell? ⟨B, 3, none⟩ = some (.slice (some ⟨b, off, none⟩) l.length cap) ∧ w'.cell? ⟨b, off + j * 3, none⟩ = some (.int .i64 zm) ∧ w'.cell? ⟨b, off + j * 3 + 1, none⟩ = some (.int .i64 zl) ∧ Hid (Below wr.heap.size wr w'))
              (first
                | with_reducible exact HX.out _ HD.out
                | with_reducible exact HX.out _ HB1.out
                | with_reducible exact HX.out _ hb1.out
                | assumption | go_keep)
              ((go_at_call 101; with_reducible refine (NO0.out _ (held3h (by assumption))).mono ?_; rintro e w' ⟨rfl, hb1⟩))
        all_goals
          go_wp2_with fail
          go_round
          case rel => exact ⟨j + 1, by omega, by go_num, HI2, Lib.hid (HLW.out _ hb1.out)⟩
          case measure => simp [intOf]; omega
      · have k1 : (m : Int) < zl := by omega
        have hT : T = false := by rw [← hI, decide_eq_false h1]; rfl
        subst hT
        clear hI h1
        go_upto_region 21 with (fail)
        go_region_held3 (fun w' => w'.cell? ⟨B, 3, none⟩ = some (.slice (some ⟨b, off, none⟩) l.length cap) ∧ w'.cell? ⟨b, off + j * 3, none⟩ = some (.int .i64 zm) ∧ w'.cell? ⟨b, off + j * 3 + 1, none⟩ = some (.int .i64 zl) ∧ Hid (Below wr.heap.size wr w'))
              (first
                | with_reducible exact HX.out _ HD.out
                | with_reducible exact HX.out _ HB1.out
                | with_reducible exact HX.out _ hb1.out
                | assumption | go_keep)
              ((go_at_call 101; with_reducible refine (NO0.out _ (held3h (by assumption))).mono ?_; rintro e w' ⟨rfl, hb1⟩))
        all_goals
          go_wp2_with fail
          exact HR.out _ _ _ _ _ _ _ _ _ _ _ _ _ _ _ _ _ _ _ _ _ _ _ _ (by first | rfl | trivial) (Lib.hid (HLW.out _ hb1.out))
    · have hji : ¬ (j : Int) < (l.length : Int) := by omega
      have hT : T = true := by
        have := HI.out
        rw [List.drop_of_length_le (by omega)] at this
        exact this.symm
      subst hT
      clear HE HI
      go_wp2_with fail
      exact HQ.out _ _ _ _ _ _ _ _ _ _ _ _ _ _ _ _ _ _ _ _ _ _ _ _ _ (by first | rfl | trivial) HB
end Go.Proofs.YtabdgnigmlpeaaaGreatDoor
/- The specification: route, whole. -/
namespace Go.Proofs.YtabdgnigmlpeaaaGreatDoor
open Go.RowKit

theorem routeE_eq (mats : List MatD) (N : List (Int × Int)) (d : DistD) : routeE mats N d = (inI 2 256 ((rxPs d.r []).length : Int) && (rtOk mats N (rxPs d.r []) && ((d.x == -1 || (kindM mats d.x == 2 && (decide ((0 : Int) < ((rxPs d.r []).count d.x : Nat)) && decide ((0 : Int) < (N.count (d.x, d.x) : Nat))))) && d.cs.all (fun z => decide (z.l ≤ ((rxPs d.r []).count z.m : Nat)))))) := by
  unfold routeE rtOk
  rcases routes_cut d.r with h | ⟨h1, h2⟩
  · rw [h]
    generalize inI 2 256 ((rxPs d.r []).length : Int) = q1
    generalize fitK mats (((rxPs d.r []).length : Int) - 1) 0 (rxPs d.r []) = q2
    generalize connE N (rxPs d.r []) = q3
    generalize (d.x == -1 || (kindM mats d.x == 2 && (decide ((0 : Int) < ((rxPs d.r []).count d.x : Nat)) && decide ((0 : Int) < (N.count (d.x, d.x) : Nat))))) = q4
    generalize d.cs.all (fun z => decide (z.l ≤ ((rxPs d.r []).count z.m : Nat))) = q5
    cases q1 <;> cases q2 <;> cases q3 <;> cases q4 <;> cases q5 <;> rfl
  · have e1 : inI 2 256 ((exPs d.r []).length : Int) = false := by unfold inI; simp; omega
    have e2 : inI 2 256 ((rxPs d.r []).length : Int) = false := by unfold inI; simp; omega
    rw [e1, e2]; rfl
set_option maxHeartbeats 32000000 in
set_option maxRecDepth 100000 in
theorem rroute_any {w : World} {Q : Nat → Prop} {c : Crs} {x : CLoc} (h : CourseIn w Q c x) (hl : limE c = true) {d : DistD} {y : DLoc} (hd : DistIn w Q d y) (hdr : distR c.mats.length d = true) (hlim : limD d = true) (W : World) (hW : Below w.heap.size w W) :
    Calls Tryz.prog 44 #[courseV c x, distV d y] W fun e w' => e = .returned (.bool (routeE c.mats (c.legs.map endsOf) d)) ∧ Below W.heap.size W w' := by
  unfold limE at hl
  simp only [Bool.and_eq_true, decide_eq_true_eq] at hl
  obtain ⟨l1, l2, -⟩ := hl
  unfold distR at hdr
  simp only [Bool.and_eq_true, Bool.or_eq_true, beq_iff_eq] at hdr
  obtain ⟨-, hpt, hcu, hdx⟩ := hdr
  unfold limD at hlim
  rw [Bool.and_eq_true, fitL_iff, decide_eq_true_eq] at hlim
  obtain ⟨hcl, -, hsz⟩ := hlim
  rw [routeE_eq]
  have hRin : (rxPs d.r []).length ≤ 256 → ∀ a ∈ rxPs d.r [], 0 ≤ a ∧ a < (c.mats.length : Int) := fun hle => by
    rcases routes_cut d.r with h | ⟨h1, h2⟩
    · rw [← h]; exact exPs_in c.mats.length d.r [] hpt (by simp)
    · omega
  obtain ⟨R, hR⟩ : ∃ R, rxPs d.r [] = R := ⟨_, rfl⟩
  have hRl := rxPs_len d.r []
  rw [hR] at hRl hRin ⊢
  rw [List.length_nil, toCds_eq] at hRl
  have hA1 := (Below.refl W.heap.size W).alloc (Nat.le_refl _) (.cells (cellsC c x).toArray 33)
  have hA2 := (Below.refl (W.alloc (.cells (cellsC c x).toArray 33)).heap.size (W.alloc (.cells (cellsC c x).toArray 33))).alloc (Nat.le_refl _) (.cells #[.string d.n, .slice y.pr d.r.length y.cr, .int .i64 d.t, .slice y.pc d.cs.length y.cc, .int .i64 d.x] 66)
  have HWW : Hid (∀ w', Below ((W.alloc (.cells (cellsC c x).toArray 33)).alloc (.cells #[.string d.n, .slice y.pr d.r.length y.cr, .int .i64 d.t, .slice y.pc d.cs.length y.cc, .int .i64 d.x] 66)).heap.size ((W.alloc (.cells (cellsC c x).toArray 33)).alloc (.cells #[.string d.n, .slice y.pr d.r.length y.cr, .int .i64 d.t, .slice y.pc d.cs.length y.cc, .int .i64 d.x] 66)) w' → Below W.heap.size W w') := Lib.hid fun w' hb => hA1.trans ((hA2.trans (hb.mono hA2.size)).mono hA1.size)
  have HQ : ∀ w', Below ((W.alloc (.cells (cellsC c x).toArray 33)).alloc (.cells #[.string d.n, .slice y.pr d.r.length y.cr, .int .i64 d.t, .slice y.pc d.cs.length y.cc, .int .i64 d.x] 66)).heap.size ((W.alloc (.cells (cellsC c x).toArray 33)).alloc (.cells #[.string d.n, .slice y.pr d.r.length y.cr, .int .i64 d.t, .slice y.pc d.cs.length y.cc, .int .i64 d.x] 66)) w' → Below w.heap.size w w' := fun w' hb => hW.trans ((HWW.out w' hb).mono hW.size)
  have NE : Hid (∀ V, Below W.heap.size W V → Calls Tryz.prog 32 #[.slice y.pr d.r.length y.cr] V fun e w' => ∃ q k rc, e = .returned (.slice q R.length rc) ∧ Hid ((R ≠ [] → q = some ⟨k, 0, none⟩) ∧ (∀ i (h : i < R.length), w'.cell? ⟨k, i, none⟩ = some (.int .i64 R[i])) ∧ R.length ≤ rc ∧ rc ≤ 9223372036854775807) ∧ Below V.heap.size V w') := Lib.hid fun V hV => by
    refine (rexp_any c.mats.length hd.route V (hW.trans (hV.mono hW.size)) (by show 257 * (1 + szCs (toCds d.r)) ≤ 900000; rw [toCds_eq]; omega) hpt).mono fun e w' ⟨v, he, ho, hb⟩ => ?_
    replace ho : OwnI w' V.heap.size v (rxPs d.r []) := ho
    rw [hR] at ho
    obtain ⟨p, cap, b, h1, h2, h3, h4⟩ := OwnI.reads ho (by omega)
    exact ⟨p, b, cap, by rw [he, h1], Lib.hid ⟨h2, h3, h4⟩, hb⟩
  obtain ⟨bm, om, hbm, hcm⟩ := h.mats
  have hML : R.length ≤ 256 → R ≠ [] → c.mats.length ≠ 0 := fun h1 h2 => by
    obtain ⟨a, ha⟩ := List.exists_mem_of_ne_nil R h2
    have := hRin h1 a ha
    omega
  have HMa : Hid (∀ w', Below ((W.alloc (.cells (cellsC c x).toArray 33)).alloc (.cells #[.string d.n, .slice y.pr d.r.length y.cr, .int .i64 d.t, .slice y.pc d.cs.length y.cc, .int .i64 d.x] 66)).heap.size ((W.alloc (.cells (cellsC c x).toArray 33)).alloc (.cells #[.string d.n, .slice y.pr d.r.length y.cr, .int .i64 d.t, .slice y.pc d.cs.length y.cc, .int .i64 d.x] 66)) w' → ∀ z : Nat, z < c.mats.length → x.pm = some ⟨bm, om, none⟩ ∧ w'.cell? ⟨bm, om + z * 2 + 1, none⟩ = some (.int .i64 (kindM c.mats (z : Int)))) := Lib.hid fun w' hb z hz => by
    refine ⟨(hbm.hb (by omega)).1, ?_⟩
    rw [keepc (HQ w' hb) (hcm z hz 1 _ rfl)]
    unfold kindM
    simp [List.getD, hz]
  have HCells : Hid (∀ w', Below ((W.alloc (.cells (cellsC c x).toArray 33)).alloc (.cells #[.string d.n, .slice y.pr d.r.length y.cr, .int .i64 d.t, .slice y.pc d.cs.length y.cc, .int .i64 d.x] 66)).heap.size ((W.alloc (.cells (cellsC c x).toArray 33)).alloc (.cells #[.string d.n, .slice y.pr d.r.length y.cr, .int .i64 d.t, .slice y.pc d.cs.length y.cc, .int .i64 d.x] 66)) w' → w'.cell? ⟨W.heap.size, 0, none⟩ = some (.string c.n) ∧ w'.cell? ⟨W.heap.size, 1, none⟩ = some (.slice x.pm c.mats.length x.cm) ∧ w'.cell? ⟨W.heap.size, 2, none⟩ = some (.slice x.pl c.legs.length x.cl) ∧ w'.cell? ⟨W.heap.size, 3, none⟩ = some (.slice x.pd c.dists.length x.cd) ∧ w'.cell? ⟨W.heap.size, 4, none⟩ = some (.slice x.pw c.waves.length x.cw) ∧ w'.cell? ⟨W.heap.size, 5, none⟩ = some (.slice x.po c.offs.length x.co) ∧ w'.cell? ⟨W.heap.size, 6, none⟩ = some (.slice x.pc c.cats.length x.cc) ∧ w'.cell? ⟨W.heap.size, 7, none⟩ = some (.slice x.pz c.prizes.length x.cz) ∧ w'.cell? ⟨W.heap.size, 8, none⟩ = some (.slice x.pt c.ties.length x.ct) ∧ w'.cell? ⟨W.heap.size, 9, none⟩ = some (.int .i64 c.fm) ∧ w'.cell? ⟨W.heap.size, 10, none⟩ = some (.int .i64 c.fs) ∧ w'.cell? ⟨W.heap.size, 11, none⟩ = some (.int .i64 c.fw) ∧ w'.cell? ⟨W.heap.size, 12, none⟩ = some (.int .i64 c.fr) ∧ w'.cell? ⟨W.heap.size, 13, none⟩ = some (.int .i64 c.fd) ∧ w'.cell? ⟨W.heap.size, 14, none⟩ = some (.int .i64 c.fee) ∧ w'.cell? ⟨W.heap.size, 15, none⟩ = some (.int .i64 c.dl)) := Lib.hid fun w' hb => ⟨keepc hb (by simp [cellsC, go_sem]), keepc hb (by simp [cellsC, go_sem]), keepc hb (by simp [cellsC, go_sem]), keepc hb (by simp [cellsC, go_sem]), keepc hb (by simp [cellsC, go_sem]), keepc hb (by simp [cellsC, go_sem]), keepc hb (by simp [cellsC, go_sem]), keepc hb (by simp [cellsC, go_sem]), keepc hb (by simp [cellsC, go_sem]), keepc hb (by simp [cellsC, go_sem]), keepc hb (by simp [cellsC, go_sem]), keepc hb (by simp [cellsC, go_sem]), keepc hb (by simp [cellsC, go_sem]), keepc hb (by simp [cellsC, go_sem]), keepc hb (by simp [cellsC, go_sem]), keepc hb (by simp [cellsC, go_sem])⟩
  have HDc : Hid (∀ w', Below ((W.alloc (.cells (cellsC c x).toArray 33)).alloc (.cells #[.string d.n, .slice y.pr d.r.length y.cr, .int .i64 d.t, .slice y.pc d.cs.length y.cc, .int .i64 d.x] 66)).heap.size ((W.alloc (.cells (cellsC c x).toArray 33)).alloc (.cells #[.string d.n, .slice y.pr d.r.length y.cr, .int .i64 d.t, .slice y.pc d.cs.length y.cc, .int .i64 d.x] 66)) w' → w'.cell? ⟨W.heap.size + 1, 3, none⟩ = some (.slice y.pc d.cs.length y.cc) ∧ w'.cell? ⟨W.heap.size + 1, 4, none⟩ = some (.int .i64 d.x)) := Lib.hid fun w' hb => ⟨keepc hb (by simp [go_sem]), keepc hb (by simp [go_sem])⟩
  have hCs : (cellsC c x).toArray.size = 16 := rfl
  have HLd : Hid (∀ w', Below ((W.alloc (.cells (cellsC c x).toArray 33)).alloc (.cells #[.string d.n, .slice y.pr d.r.length y.cr, .int .i64 d.t, .slice y.pc d.cs.length y.cc, .int .i64 d.x] 66)).heap.size ((W.alloc (.cells (cellsC c x).toArray 33)).alloc (.cells #[.string d.n, .slice y.pr d.r.length y.cr, .int .i64 d.t, .slice y.pc d.cs.length y.cc, .int .i64 d.x] 66)) w' → (Instr.loadAt 33 (.pointer (some ⟨W.heap.size, 0, none⟩))).run Tryz.prog w' = .ok (.agg (cellsC c x).toArray) w') := Lib.hid fun w' hb => ld_keep hCs (hA2.trans (hb.mono hA2.size))
  have NLa : Hid (∀ (f t : Int) V, Below ((W.alloc (.cells (cellsC c x).toArray 33)).alloc (.cells #[.string d.n, .slice y.pr d.r.length y.cr, .int .i64 d.t, .slice y.pc d.cs.length y.cc, .int .i64 d.x] 66)).heap.size ((W.alloc (.cells (cellsC c x).toArray 33)).alloc (.cells #[.string d.n, .slice y.pr d.r.length y.cr, .int .i64 d.t, .slice y.pc d.cs.length y.cc, .int .i64 d.x] 66)) V → Calls Tryz.prog 100 #[.agg #[.string c.n, .slice x.pm c.mats.length x.cm, .slice x.pl c.legs.length x.cl, .slice x.pd c.dists.length x.cd, .slice x.pw c.waves.length x.cw, .slice x.po c.offs.length x.co, .slice x.pc c.cats.length x.cc, .slice x.pz c.prizes.length x.cz, .slice x.pt c.ties.length x.ct, .int .i64 c.fm, .int .i64 c.fs, .int .i64 c.fw, .int .i64 c.fr, .int .i64 c.fd, .int .i64 c.fee, .int .i64 c.dl], .int .i64 f, .int .i64 t] V fun e w' => ∃ r : Int, e = .returned (.int .i64 r) ∧ decide (r < 0) = ((c.legs.map endsOf).count (f, t) == 0) ∧ Below V.heap.size V w') := Lib.hid fun f t V hV => rleg_any h.legs (by omega) f t V (HQ V hV)
  have NLc : Hid (∀ (f t : Int) V, Below ((W.alloc (.cells (cellsC c x).toArray 33)).alloc (.cells #[.string d.n, .slice y.pr d.r.length y.cr, .int .i64 d.t, .slice y.pc d.cs.length y.cc, .int .i64 d.x] 66)).heap.size ((W.alloc (.cells (cellsC c x).toArray 33)).alloc (.cells #[.string d.n, .slice y.pr d.r.length y.cr, .int .i64 d.t, .slice y.pc d.cs.length y.cc, .int .i64 d.x] 66)) V → Calls Tryz.prog 100 #[.agg (cellsC c x).toArray, .int .i64 f, .int .i64 t] V fun e w' => ∃ r : Int, e = .returned (.int .i64 r) ∧ decide (r < 0) = ((c.legs.map endsOf).count (f, t) == 0) ∧ Below V.heap.size V w') := Lib.hid fun f t V hV => rleg_any h.legs (by omega) f t V (HQ V hV)
  obtain ⟨bc, oc, hbc, hcc⟩ := hd.cuts
  have HEc : Hid (∀ w', Below ((W.alloc (.cells (cellsC c x).toArray 33)).alloc (.cells #[.string d.n, .slice y.pr d.r.length y.cr, .int .i64 d.t, .slice y.pc d.cs.length y.cc, .int .i64 d.x] 66)).heap.size ((W.alloc (.cells (cellsC c x).toArray 33)).alloc (.cells #[.string d.n, .slice y.pr d.r.length y.cr, .int .i64 d.t, .slice y.pc d.cs.length y.cc, .int .i64 d.x] 66)) w' → ∀ j (h : j < d.cs.length), y.pc = some ⟨bc, oc, none⟩ ∧ w'.cell? ⟨bc, oc + j * 3, none⟩ = some (.int .i64 d.cs[j].m) ∧ w'.cell? ⟨bc, oc + j * 3 + 1, none⟩ = some (.int .i64 d.cs[j].l)) := Lib.hid fun w' hb j hj => ⟨(hbc.hb (by omega)).1, keepc (HQ w' hb) (hcc j hj 0 _ rfl), keepc (HQ w' hb) (hcc j hj 1 _ rfl)⟩
  have HB0 := Lib.hid (Below.refl ((W.alloc (.cells (cellsC c x).toArray 33)).alloc (.cells #[.string d.n, .slice y.pr d.r.length y.cr, .int .i64 d.t, .slice y.pc d.cs.length y.cc, .int .i64 d.x] 66)).heap.size ((W.alloc (.cells (cellsC c x).toArray 33)).alloc (.cells #[.string d.n, .slice y.pr d.r.length y.cr, .int .i64 d.t, .slice y.pc d.cs.length y.cc, .int .i64 d.x] 66)))
  have HRin := Lib.hid hRin
  have HA := Lib.hid (HWW.out _ HB0.out)
  have HDx : Hid (d.x = -1 ∨ 0 ≤ d.x ∧ d.x < (c.mats.length : Int)) := Lib.hid (hdx.imp id fun h => by unfold inI at h; simp only [Bool.and_eq_true, decide_eq_true_eq] at h; omega)
  clear h hd hA1 hA2 hW HQ hbm hcm hbc hcc hCs hpt hcu hdx hR hRin hRl hsz hML
  unfold courseV distV DistD.cells at *
  generalize (cellsC c x).toArray = cs at *
  obtain ⟨dn, dr, dt, dc, dx⟩ := d
  obtain ⟨pr, cr, pc, cc⟩ := y
  simp only at *
  generalize dr.length = nr at *
  generalize hN : c.legs.map endsOf = N at *
  clear hN
  obtain ⟨T, hT⟩ : ∃ T, T = (inI 2 256 (R.length : Int) && (rtOk c.mats N R && ((dx == -1 || (kindM c.mats dx == 2 && (decide ((0 : Int) < (R.count dx : Nat)) && decide ((0 : Int) < (N.count (dx, dx) : Nat))))) && dc.all (fun z => decide (z.l ≤ (R.count z.m : Nat)))))) := ⟨_, rfl⟩
  rw [← hT]
  have HT := Lib.hid hT
  clear hT
  by_cases h2 : R.length < 2
  · have k2 : (R.length : Int) < 2 := by omega
    have hT : T = false := by rw [HT.out, show inI 2 256 (R.length : Int) = false from by unfold inI; rw [decide_eq_false (show ¬ (2 : Int) ≤ (R.length : Int) by omega)]; rfl]; rfl
    subst hT
    go_enter Tryz.func44, Tryz.ntmps44
    go_wp2_with (go_at_call 32; (with_reducible refine (NE.out _ HA.out).mono ?_); rintro e w1 ⟨q, k, rc, rfl, hr, hb⟩; have HRd := hr; have HB1 := Lib.hid (HB0.out.trans (hb.mono HB0.out.size)); clear hb hr)
    go_ret
    exact ⟨rfl, HWW.out _ HB1.out⟩
  · have k2 : ¬ (R.length : Int) < 2 := by omega
    by_cases h3 : 256 < R.length
    · have k3 : (256 : Int) < (R.length : Int) := by omega
      have hT : T = false := by rw [HT.out, show inI 2 256 (R.length : Int) = false from by unfold inI; rw [decide_eq_false (show ¬ (R.length : Int) ≤ 256 by omega)]; simp]; rfl
      subst hT
      go_enter Tryz.func44, Tryz.ntmps44
      go_wp2_with (go_at_call 32; (with_reducible refine (NE.out _ HA.out).mono ?_); rintro e w1 ⟨q, k, rc, rfl, hr, hb⟩; have HRd := hr; have HB1 := Lib.hid (HB0.out.trans (hb.mono HB0.out.size)); clear hb hr)
      go_ret
      exact ⟨rfl, HWW.out _ HB1.out⟩
    · have k3 : ¬ (256 : Int) < (R.length : Int) := by omega
      have hq0 : inI 2 256 (R.length : Int) = true := by unfold inI; rw [decide_eq_true (show (2 : Int) ≤ (R.length : Int) by omega), decide_eq_true (show (R.length : Int) ≤ 256 by omega)]; rfl
      have hne : R ≠ [] := by rintro rfl; simp at h2
      go_enter Tryz.func44, Tryz.ntmps44
      go_upto_block 0 with ((go_at_call 32; (with_reducible refine (NE.out _ HA.out).mono ?_); rintro e w1 ⟨q, k, rc, rfl, hr, hb⟩; have HRd := hr; have HB1 := Lib.hid (HB0.out.trans (hb.mono HB0.out.size)); clear hb hr))
      obtain rfl := HRd.out.1 hne
      have HRr : Hid (∀ w', Below w1.heap.size w1 w' → ∀ j (h : j < R.length), w'.cell? ⟨k, j, none⟩ = some (.int .i64 R[j])) := Lib.hid fun w' hb j hj => keepc hb (HRd.out.2.1 j hj)
      have HUp : Hid (∀ w', Below w1.heap.size w1 w' → Below ((W.alloc (.cells cs 33)).alloc (.cells #[.string dn, .slice pr nr cr, .int .i64 dt, .slice pc dc.length cc, .int .i64 dx] 66)).heap.size ((W.alloc (.cells cs 33)).alloc (.cells #[.string dn, .slice pr nr cr, .int .i64 dt, .slice pc dc.length cc, .int .i64 dx] 66)) w') := Lib.hid fun w' hb => HB1.out.trans (hb.mono HB1.out.size)
      refine rtA_any (A := w1) (B := W.heap.size) (mats := c.mats) (N := N) (bm := bm) (om := om) _ (by omega) (by omega) (by omega) (Lib.hid fun w' hb => HCells.out w' (HUp.out w' hb)) HRr (Lib.hid fun w' hb j hj => ?hM) (Lib.hid fun f t V hV => NLa.out f t V (HUp.out V hV)) ?hQ ?hR (Lib.hid (Below.refl w1.heap.size w1))
      case hM =>
        have hm := HRin.out (by omega) R[j] (List.getElem_mem hj)
        obtain ⟨z, hz⟩ : ∃ z : Nat, R[j] = (z : Int) := ⟨R[j].toNat, by omega⟩
        have hzl : z < c.mats.length := by omega
        obtain ⟨h1, h4⟩ := HMa.out w' (HUp.out w' hb) z hzl
        exact ⟨h1, z, hz, hzl, by rw [hz]; exact h4⟩
      case hR =>
        intro _ _ _ _ _ _ _ _ _ _ _ _ _ _ _ _ _ _ _ _ _ _ _ _ _ _ _ _ _ _ _ _ _ _ _ _ _ _ _ _ _ _ _  w9 hq HB9
        have hT : T = false := by rw [HT.out, hq0, hq]; rfl
        subst hT
        go_ret
        exact ⟨rfl, HWW.out _ (HUp.out _ HB9.out)⟩
      case hQ =>
        intro _ _ _ _ _ _ _ _ _ _ _ _ _ _ _ _ _ _ _ _ _ _ _ _ _ _ _ _ _ _ _ _ _ _ _ _ _ _ _ _ _ _ _ _  w2 hq1 HB2
        have HBX := Lib.hid (HUp.out _ HB2.out)
        obtain ⟨-, c1, -⟩ := HCells.out _ HBX.out
        obtain ⟨d3, d4⟩ := HDc.out _ HBX.out
        have HL2 := Lib.hid (HLd.out _ HBX.out)
        have HLdK := HLd
        have hq01 : Hid (T = ((dx == -1 || (kindM c.mats dx == 2 && (decide ((0 : Int) < (R.count dx : Nat)) && decide ((0 : Int) < (N.count (dx, dx) : Nat))))) && dc.all (fun z => decide (z.l ≤ (R.count z.m : Nat))))) := Lib.hid (by rw [HT.out, hq0, hq1]; rfl)
        have NO : Hid (∀ (n : Int) V, Below ((W.alloc (.cells cs 33)).alloc (.cells #[.string dn, .slice pr nr cr, .int .i64 dt, .slice pc dc.length cc, .int .i64 dx] 66)).heap.size ((W.alloc (.cells cs 33)).alloc (.cells #[.string dn, .slice pr nr cr, .int .i64 dt, .slice pc dc.length cc, .int .i64 dx] 66)) V → Below w1.heap.size w1 V → Calls Tryz.prog 101 #[.slice (some ⟨k, 0, none⟩) R.length rc, .int .i64 n] V fun e w' => e = .returned (.int .i64 (R.count n : Nat)) ∧ Below V.heap.size V w') := Lib.hid fun n V _ hV => roften_any R n _ V ⟨_, rc, k, rfl, by omega, fun _ => rfl, fun i hi => HRr.out V hV i hi, HRd.out.2.2⟩
        clear hq1 hq0 HT HRin HRr HCells HLd NLa HB0 NE
        by_cases hx : dx = -1
        · have hx2 : (dx != -1) = false := by simpa using hx
          have hI := hq01.out
          rw [show (dx == -1) = true from by simpa using hx, Bool.true_or, Bool.true_and] at hI
          clear hq01 HL2 HMa c1 hx
          have HEnd : Hid (∀ w', Below w2.heap.size w2 w' → Below ((W.alloc (.cells cs 33)).alloc (.cells #[.string dn, .slice pr nr cr, .int .i64 dt, .slice pc dc.length cc, .int .i64 dx] 66)).heap.size ((W.alloc (.cells cs 33)).alloc (.cells #[.string dn, .slice pr nr cr, .int .i64 dt, .slice pc dc.length cc, .int .i64 dx] 66)) w' ∧ Below w1.heap.size w1 w') := Lib.hid fun w' hb => ⟨HUp.out _ (HB2.out.trans (hb.mono HB2.out.size)), HB2.out.trans (hb.mono HB2.out.size)⟩
          go_upto_block 3 with (fail)
          refine rtB_any (A := w2) (B := W.heap.size + 1) (R := R) (l := dc) _ (by omega) (Lib.hid fun w' hb => (HDc.out w' (HEnd.out w' hb).1).1) (Lib.hid fun w' hb => HEc.out w' (HEnd.out w' hb).1) (Lib.hid fun n V hV => NO.out n V (HEnd.out V hV).1 (HEnd.out V hV).2) ?hQ ?hR (Lib.hid (Below.refl w2.heap.size w2))
          case hR =>
            intro _ _ _ _ _ _ _ _ _ _ _ _ _ _ _ _ _ _ _ _ _ _ _  w9 hq HB9
            have hT : T = false := by rw [hI, hq]
            subst hT
            go_ret
            exact ⟨rfl, HWW.out _ (HEnd.out _ HB9.out).1⟩
          case hQ =>
            intro _ _ _ _ _ _ _ _ _ _ _ _ _ _ _ _ _ _ _ _ _ _ _ _  w9 hq HB9
            have hT : T = true := by rw [hI, hq]
            subst hT
            clear hI hq
            go_wp2_with fail
            go_ret
            exact ⟨rfl, HWW.out _ (HEnd.out _ HB9.out).1⟩
        · have hx2 : (dx != -1) = true := by simpa using hx
          have hx3 : (dx == -1) = false := by simpa using hx
          have hdx := HDx.out.resolve_left hx
          have hI := hq01.out
          rw [hx3, Bool.false_or] at hI
          have hz0 : (0 : Int) ≤ dx := hdx.1
          have hzi : dx < (c.mats.length : Int) := hdx.2
          obtain ⟨hpm, m0⟩ := HMa.out _ HBX.out dx.toNat (by omega)
          rw [Int.toNat_of_nonneg hz0] at m0
          rw [hpm] at c1
          clear hq01 hx hx3 HMa HDx hdx hpm
          have HLW : Hid (∀ w', Below ((W.alloc (.cells cs 33)).alloc (.cells #[.string dn, .slice pr nr cr, .int .i64 dt, .slice pc dc.length cc, .int .i64 dx] 66)).heap.size ((W.alloc (.cells cs 33)).alloc (.cells #[.string dn, .slice pr nr cr, .int .i64 dt, .slice pc dc.length cc, .int .i64 dx] 66)) w' → (Instr.loadAt 33 (.pointer (some ⟨W.heap.size, 0, none⟩))).run Tryz.prog w' = .ok (.agg cs) w') := HLdK
          generalize kindM c.mats dx = km at *
          by_cases h1 : km = 2
          · have k1 : (km != 2) = false := by simpa using h1
            rw [show (km == 2) = true from by simpa using h1, Bool.true_and] at hI
            clear h1
            have NOd : Hid (∀ V, Below ((W.alloc (.cells cs 33)).alloc (.cells #[.string dn, .slice pr nr cr, .int .i64 dt, .slice pc dc.length cc, .int .i64 dx] 66)).heap.size ((W.alloc (.cells cs 33)).alloc (.cells #[.string dn, .slice pr nr cr, .int .i64 dt, .slice pc dc.length cc, .int .i64 dx] 66)) V → Below w1.heap.size w1 V → Calls Tryz.prog 101 #[.slice (some ⟨k, 0, none⟩) R.length rc, .int .i64 dx] V fun e w' => e = .returned (.int .i64 (R.count dx : Nat)) ∧ Below V.heap.size V w') := Lib.hid fun V h1 h2 => NO.out dx V h1 h2
            generalize R.count dx = m at NOd hI
            by_cases h2c : m = 0
            · subst h2c
              have hT : T = false := by rw [hI]; rfl
              subst hT
              clear hI
              go_wp2_with (first | go_skip | (go_at_call 101; (with_reducible refine (NOd.out _ HBX.out HB2.out).mono ?_); rintro e w3 ⟨rfl, hb⟩; have HB3 := Lib.hid (HB2.out.trans (hb.mono HB2.out.size)); obtain ⟨d3b, d4b⟩ := HDc.out _ (HUp.out _ HB3.out); have HL3 := Lib.hid (HLW.out _ (HUp.out _ HB3.out)); clear hb))
              go_ret
              exact ⟨rfl, HWW.out _ (HUp.out _ HB3.out)⟩
            · have k4 : ((m : Int) == 0) = false := by simpa using h2c
              rw [decide_eq_true (show (0 : Int) < (m : Int) by omega), Bool.true_and] at hI
              by_cases h3c : N.count (dx, dx) = 0
              · have NLL : Hid (∀ V, Below ((W.alloc (.cells cs 33)).alloc (.cells #[.string dn, .slice pr nr cr, .int .i64 dt, .slice pc dc.length cc, .int .i64 dx] 66)).heap.size ((W.alloc (.cells cs 33)).alloc (.cells #[.string dn, .slice pr nr cr, .int .i64 dt, .slice pc dc.length cc, .int .i64 dx] 66)) V → Calls Tryz.prog 100 #[.agg cs, .int .i64 dx, .int .i64 dx] V fun e w' => ∃ r : Int, e = .returned (.int .i64 r) ∧ r < 0 ∧ Below V.heap.size V w') := Lib.hid fun V hV => (NLc.out dx dx V hV).mono fun e w' h => by
                  obtain ⟨r, he, h1, h2⟩ := h
                  rw [h3c] at h1
                  exact ⟨r, he, of_decide_eq_true h1, h2⟩
                have hT : T = false := by rw [hI, h3c]; rfl
                subst hT
                clear hI h2c h3c NLc
                go_wp2_with (first | go_skip | (go_at_call 101; (with_reducible refine (NOd.out _ HBX.out HB2.out).mono ?_); rintro e w3 ⟨rfl, hb⟩; have HB3 := Lib.hid (HB2.out.trans (hb.mono HB2.out.size)); obtain ⟨d3b, d4b⟩ := HDc.out _ (HUp.out _ HB3.out); have HL3 := Lib.hid (HLW.out _ (HUp.out _ HB3.out)); clear hb) | (refine wpList_loadW (ty := 33) (x := .tmp 2) rfl rfl rfl HL3.out ?_) | (go_at_call 100; (with_reducible refine (NLL.out _ (HUp.out _ HB3.out)).mono ?_); rintro e w4 ⟨r, rfl, hr, hb⟩; have HB4 := Lib.hid (HB3.out.trans (hb.mono HB3.out.size)); clear hb))
                go_ret
                exact ⟨rfl, HWW.out _ (HUp.out _ HB4.out)⟩
              · have NLL : Hid (∀ V, Below ((W.alloc (.cells cs 33)).alloc (.cells #[.string dn, .slice pr nr cr, .int .i64 dt, .slice pc dc.length cc, .int .i64 dx] 66)).heap.size ((W.alloc (.cells cs 33)).alloc (.cells #[.string dn, .slice pr nr cr, .int .i64 dt, .slice pc dc.length cc, .int .i64 dx] 66)) V → Calls Tryz.prog 100 #[.agg cs, .int .i64 dx, .int .i64 dx] V fun e w' => ∃ r : Int, e = .returned (.int .i64 r) ∧ ¬ r < 0 ∧ Below V.heap.size V w') := Lib.hid fun V hV => (NLc.out dx dx V hV).mono fun e w' h => by
                  obtain ⟨r, he, h1, h2⟩ := h
                  have h4 : (N.count (dx, dx) == 0) = false := by simpa using h3c
                  rw [h4] at h1
                  exact ⟨r, he, of_decide_eq_false h1, h2⟩
                rw [decide_eq_true (show (0 : Int) < ((N.count (dx, dx) : Nat) : Int) by omega), Bool.true_and] at hI
                clear h2c h3c NLc
                go_upto_block 3 with (first | go_skip | (go_at_call 101; (with_reducible refine (NOd.out _ HBX.out HB2.out).mono ?_); rintro e w3 ⟨rfl, hb⟩; have HB3 := Lib.hid (HB2.out.trans (hb.mono HB2.out.size)); obtain ⟨d3b, d4b⟩ := HDc.out _ (HUp.out _ HB3.out); have HL3 := Lib.hid (HLW.out _ (HUp.out _ HB3.out)); clear hb) | (refine wpList_loadW (ty := 33) (x := .tmp 2) rfl rfl rfl HL3.out ?_) | (go_at_call 100; (with_reducible refine (NLL.out _ (HUp.out _ HB3.out)).mono ?_); rintro e w4 ⟨r, rfl, hr, hb⟩; have HB4 := Lib.hid (HB3.out.trans (hb.mono HB3.out.size)); clear hb))
                have HEnd : Hid (∀ w', Below w4.heap.size w4 w' → Below ((W.alloc (.cells cs 33)).alloc (.cells #[.string dn, .slice pr nr cr, .int .i64 dt, .slice pc dc.length cc, .int .i64 dx] 66)).heap.size ((W.alloc (.cells cs 33)).alloc (.cells #[.string dn, .slice pr nr cr, .int .i64 dt, .slice pc dc.length cc, .int .i64 dx] 66)) w' ∧ Below w1.heap.size w1 w') := Lib.hid fun w' hb => ⟨HUp.out _ (HB4.out.trans (hb.mono HB4.out.size)), HB4.out.trans (hb.mono HB4.out.size)⟩
                refine rtB_any (A := w4) (B := W.heap.size + 1) (R := R) (l := dc) _ (by omega) (Lib.hid fun w' hb => (HDc.out w' (HEnd.out w' hb).1).1) (Lib.hid fun w' hb => HEc.out w' (HEnd.out w' hb).1) (Lib.hid fun n V hV => NO.out n V (HEnd.out V hV).1 (HEnd.out V hV).2) ?hQ ?hR (Lib.hid (Below.refl w4.heap.size w4))
                case hR =>
                  intro _ _ _ _ _ _ _ _ _ _ _ _ _ _ _ _ _ _ _ _ _ _ _  w9 hq HB9
                  have hT : T = false := by rw [hI, hq]
                  subst hT
                  go_ret
                  exact ⟨rfl, HWW.out _ (HEnd.out _ HB9.out).1⟩
                case hQ =>
                  intro _ _ _ _ _ _ _ _ _ _ _ _ _ _ _ _ _ _ _ _ _ _ _ _  w9 hq HB9
                  have hT : T = true := by rw [hI, hq]
                  subst hT
                  clear hI hq
                  go_wp2_with fail
                  go_ret
                  exact ⟨rfl, HWW.out _ (HEnd.out _ HB9.out).1⟩
          · have k1 : (km != 2) = true := by simpa using h1
            have hT : T = false := by rw [hI, show (km == 2) = false from by simpa using h1]; rfl
            subst hT
            clear hI h1
            go_wp2_with fail
            go_ret
            exact ⟨rfl, HWW.out _ HBX.out⟩
end Go.Proofs.YtabdgnigmlpeaaaGreatDoor
