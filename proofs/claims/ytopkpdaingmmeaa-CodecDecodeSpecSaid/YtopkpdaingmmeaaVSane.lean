/- The laws' check of the chapter's examples: it returns true. -/
import Derived.Test.YtopkpdaingmmeaaVMake
import Derived.Laws.IdiomStrings
namespace Go.Proofs.Ytopkpdaingmmeaa
open Go.RowKit

theorem encG_any {v : V} (h : Good 16 v) (hr : rank v ≤ 1000000) (hl : (enc v).length ≤ 1000000000000) (w : World) (B : Nat) (p : Option Addr) (cap : Nat) (hv : VAt w B v p cap) :
    Calls Try.prog 12 #[vV v p cap] w fun e w' => Below w.heap.size w w' ∧ ∃ q c, e = .returned (.tuple #[.slice q (enc v).length c, .int .i64 0]) ∧ BAt w' w.heap.size q (enc v) ∧ (enc v).length ≤ c ∧ c ≤ 9223372036854775807 ∧ (q = none → c = 0) := by
  refine (encode_any v hr (fun _ => hl) w B p cap hv).mono ?_
  rintro e w' ⟨hb, q, m, c, rfl, hq, rfl, h1, h2, h3⟩
  rw [errV_good h, if_pos rfl] at *
  exact ⟨hb, q, c, rfl, hq, h2, h3, h1⟩
theorem sizeG_any {v : V} (h : Good 16 v) (hr : rank v ≤ 1000000) (hl : (enc v).length ≤ 1000000000000) (w : World) (B : Nat) (p : Option Addr) (cap : Nat) (hv : VAt w B v p cap) :
    Calls Try.prog 14 #[vV v p cap] w fun e w' => e = .returned (.tuple #[.int .i64 (enc v).length, .int .i64 0]) ∧ Below w.heap.size w w' := by
  refine (size_any v hr (fun _ => hl) w B p cap hv).mono ?_
  rintro e w' ⟨rfl, hb⟩
  rw [errV_good h, if_pos rfl]
  exact ⟨rfl, hb⟩
theorem decG_any {v : V} (h : Good 16 v) (hl : (enc v).length ≤ 1000000000000) (w : World) (B : Nat) (q : Option Addr) (c : Nat) (hq : BAt w B q (enc v)) (hc : (enc v).length ≤ c) :
    Calls Try.prog 18 #[.slice q (enc v).length c] w fun e w' => Below w.heap.size w w' ∧ ∃ p cap, e = .returned (.tuple #[vV v p cap, .int .i64 0]) ∧ VAt w' w.heap.size v p cap := by
  refine (decode_any (enc v) hl w B q c hq hc).mono ?_
  rintro e w' ⟨hb, p, cap, rfl, hv⟩
  rw [(decV_of h).1, (decV_of h).2] at *
  exact ⟨hb, p, cap, rfl, hv.at fun b hb => hb⟩

/-- []byte(s). -/
theorem bytes_of (w : World) (s : ByteArray) (hs : s.size ≤ 1000000) :
    ∃ q c w', (convert 9 27 (.string s)).run Try.prog w = .ok (.slice q s.size c) w' ∧ Below w.heap.size w w' ∧ BAt w' w.heap.size q s.data.toList ∧ s.size ≤ c ∧ c ≤ 9223372036854775807 := by
  have hr := run_bytes_of_string (P := Try.prog) w 9 27 5 s Try.underlying9 Try.underlying27 Try.underlying5
  have hlen : s.data.toList.length = s.size := by rw [Array.length_toList]; rfl
  refine ⟨_, _, _, hr, (Below.refl w.heap.size w).drew.alloc (Nat.le_refl _) _, ⟨by omega, fun _ => ⟨w.heap.size, 0, rfl, Nat.le_refl _, by simp, fun i hi => ?_⟩⟩, grownCap_ge _ _ _ _, ?_⟩
  · have hc := heap_alloc_new w.drew (.cells (bytesRow s (grownCap w s.size 0 5)) 5 ((bytesRow s (grownCap w s.size 0 5)).size, (bytesRow s (grownCap w s.size 0 5)).size + 1))
    rw [Nat.zero_add]
    rw [cell_of_row _ w.heap.size i _ _ _ hc, bytesRow_at s _ i (by simpa using hi)]
    simp
  · have := grownCap_le_maxLen w s.size 0 5 (by unfold maxLen; omega)
    unfold maxLen at this
    omega

def exS : List ByteArray := [⟨#[]⟩, ⟨#[1, 128, 0]⟩, ⟨#[1, 5, 0]⟩, ⟨#[2, 3, 97]⟩]
theorem exS_dec (i : Nat) (h : i < exS.length) : decE (exS[i]).data.toList = 20 ∧ (exS[i]).size ≤ 3 := by
  match i, h with
  | 0, _ => exact ⟨decE_bad1, Nat.le_of_ble_eq_true rfl⟩
  | 1, _ => exact ⟨decE_bad2, Nat.le_of_ble_eq_true rfl⟩
  | 2, _ => exact ⟨decE_bad3, Nat.le_of_ble_eq_true rfl⟩
  | 3, _ => exact ⟨decE_bad4, Nat.le_of_ble_eq_true rfl⟩

theorem good_int {n : Int} (h : Fit64 n) : Good 16 (.mk 1 n ⟨#[]⟩ []) := by
  refine ⟨(formed_int _ _ _).2 ⟨rfl, rfl⟩, by rw [depth_no (by decide)]; omega, ?_⟩
  rw [Fits]; exact ⟨h, by decide, by decide, trivial⟩
theorem rank_leaf (k n : Int) (s : ByteArray) : rank (.mk k n s []) = 1 := by rw [rank_mk, rankL]
theorem rank_exL : rank exL = 2 := by unfold exL; rw [rank_mk, rankL, rankL, rankL, rank_leaf, rank_leaf]; rfl

abbrev exCells : Obj := .cells #[.int .i64 1, .int .i64 100, .string ⟨#[]⟩, .slice none 0 0, .int .i64 2, .int .i64 0, .string ⟨#[97, 98]⟩, .slice none 0 0] 24
theorem exL_at {w4 w' : World} (hb : Below (w4.alloc exCells).heap.size (w4.alloc exCells) w') : VAt w' 0 exL (some ⟨w4.heap.size, 0, none⟩) 2 := by
  refine VAt.bel ?_ hb
  refine .mk 3 0 _ _ _ 2 w4.heap.size 0 (fun _ => none) (fun _ => 0) ⟨by decide, by decide⟩ ⟨by decide, by decide⟩ (by decide) (by decide) (by decide) (by decide) (fun h => by cases h) (fun _ => ⟨rfl, Nat.zero_le _, by simp⟩) (fun i hi => ?_) (fun i hi => ?_)
  · match i, hi with
    | 0, _ => simp [go_sem, V.k, V.n, V.s, V.l]
    | 1, _ => simp [go_sem, V.k, V.n, V.s, V.l]
  · match i, hi with
    | 0, _ => exact VAt.leaf ⟨by decide, by decide⟩ ⟨by decide, by decide⟩ (by decide) (fun _ => rfl) (by decide)
    | 1, _ => exact VAt.leaf ⟨by decide, by decide⟩ ⟨by decide, by decide⟩ (by decide) (fun _ => rfl) (by decide)

set_option maxHeartbeats 4000000 in
set_option maxRecDepth 100000 in
theorem sane_any (w : World) : Calls Try.prog 10 #[] w fun e w' => e = .returned (.bool true) ∧ Below w.heap.size w w' := by
  have f3 : Fit64 (-3) := ⟨by decide, by decide⟩
  go_enter Try.func10, Try.ntmps10
  go_wp2_with fail
  go_at_call 23
  refine (int_any (-3) w).mono ?_
  rintro e w1 ⟨rfl, hb⟩
  have HB1 := Lib.hid hb; clear hb
  have hx := encG_any (good_int f3) (by rw [rank_leaf]; omega) (by rw [enc_i3]; decide) w1 0 none 0 (VAt.leaf ⟨by decide, by decide⟩ f3 (by decide) (fun _ => rfl) (by decide))
  rw [enc_i3] at hx
  unfold vV at *
  have HX := Lib.hid hx; clear hx
  go_wp2_with fail
  go_at_call 12
  refine HX.out.mono ?_
  rintro e w2 ⟨hb, qa, ca, rfl, ha, _⟩
  have HB2 := Lib.hid (HB1.out.trans (hb.mono HB1.out.size)); clear hb HX HB1
  have HA := Lib.hid ha; clear ha
  go_wp2_with fail
  go_at_call 23
  refine (int_any 100 w2).mono ?_
  rintro e w3 ⟨rfl, hb⟩
  have HA := Lib.hid (HA.out.below hb)
  have HB3 := Lib.hid (HB2.out.trans (hb.mono HB2.out.size)); clear hb HB2
  unfold vV
  go_wp2_with fail
  go_at_call 24
  refine (text_any ⟨#[97, 98]⟩ w3).mono ?_
  rintro e w4 ⟨rfl, hb⟩
  have HA := Lib.hid (HA.out.below hb)
  have HB4 := Lib.hid (HB3.out.trans (hb.mono HB3.out.size)); clear hb HB3
  unfold vV
  go_wp2_with fail
  go_at_call 22
  refine (list_any (some ⟨w4.heap.size, 0, none⟩) 2 2 _).mono ?_
  rintro e w5 ⟨rfl, hb⟩
  have h4 := (Below.refl w4.heap.size w4).alloc (Nat.le_refl _) exCells
  have HA := Lib.hid ((HA.out.below h4).below hb)
  have hv5 := exL_at hb
  have HB5 := Lib.hid (HB4.out.trans ((h4.mono HB4.out.size).trans (hb.mono (Nat.le_trans HB4.out.size h4.size)))); clear hb h4 HB4
  have HV : Hid (∀ o, VAt (w5.alloc o) 0 exL (some ⟨w4.heap.size, 0, none⟩) 2) := Lib.hid fun o => hv5.bel ((Below.refl w5.heap.size w5).alloc (Nat.le_refl _) o)
  clear hv5
  have HX : Hid (∀ o, Calls Try.prog 12 #[.agg #[.int .i64 3, .int .i64 0, .string ⟨#[]⟩, .slice (some ⟨w4.heap.size, 0, none⟩) 2 2]] (w5.alloc o) fun e w' => Below (w5.alloc o).heap.size (w5.alloc o) w' ∧ ∃ q c, e = .returned (.tuple #[.slice q 9 c, .int .i64 0]) ∧ BAt w' (w5.alloc o).heap.size q [3, 2, 1, 200, 1, 2, 2, 97, 98] ∧ 9 ≤ c ∧ c ≤ 9223372036854775807 ∧ (q = none → c = 0)) := Lib.hid fun o => by
    have := encG_any good_exL (by rw [rank_exL]; omega) (by rw [enc_exL]; decide) _ 0 _ 2 (HV.out o)
    rw [enc_exL] at this
    exact this
  go_wp2_with fail
  go_at_call 12
  refine (HX.out _).mono ?_
  rintro e w6 ⟨hb, qb, cb, rfl, hqb, hcb, _⟩
  obtain ⟨b0, c0, c1, c2, c3⟩ := (Box.new w5 3 0 ⟨#[]⟩ (.slice (some ⟨w4.heap.size, 0, none⟩) 2 2)).bel hb (by simp)
  have HA := Lib.hid ((HA.out.below ((Below.refl w5.heap.size w5).alloc (Nat.le_refl _) _)).below hb)
  have HQ := Lib.hid hqb
  have hv6 := (HV.out _).bel hb
  have h5 := (Below.refl w5.heap.size w5).alloc (Nat.le_refl _) (.cells #[.int .i64 3, .int .i64 0, .string ⟨#[]⟩, .slice (some ⟨w4.heap.size, 0, none⟩) 2 2] 24)
  have HB6 := Lib.hid (HB5.out.trans ((h5.mono HB5.out.size).trans (hb.mono (Nat.le_trans HB5.out.size h5.size)))); clear HB5 h5 HX HV
  have HV6 := Lib.hid hv6; clear hv6
  have HD := Lib.hid (decG_any good_exL (by rw [enc_exL]; decide) w6 _ qb cb (by rw [enc_exL]; exact hqb) (by rw [enc_exL]; exact hcb))
  rw [enc_exL] at HD
  clear hqb hb
  unfold vV at HD
  go_wp2_with fail
  go_at_call 18
  refine HD.out.mono ?_
  rintro e w7 ⟨hb, pd, cd, rfl, hvd⟩
  have BX7 := (⟨b0, c0, c1, c2, c3⟩ : Box w6 w5.heap.size 3 0 ⟨#[]⟩ (.slice (some ⟨w4.heap.size, 0, none⟩) 2 2)).bel hb b0
  have HA := Lib.hid (HA.out.below hb)
  have HQ := Lib.hid (HQ.out.below hb)
  have HV7 := Lib.hid (HV6.out.bel hb)
  have HVD := Lib.hid hvd
  have HB7 := Lib.hid (HB6.out.trans (hb.mono HB6.out.size))
  clear HB6 HV6 hvd HD hb b0 c0 c1 c2 c3
  obtain ⟨b0, c0, c1, c2, c3⟩ := BX7
  have h7 : ∀ o, Below w7.heap.size w7 (w7.alloc o) := fun o => (Below.refl w7.heap.size w7).alloc (Nat.le_refl _) o
  have HS : Hid (∀ o, Calls Try.prog 14 #[.agg #[.int .i64 3, .int .i64 0, .string ⟨#[]⟩, .slice (some ⟨w4.heap.size, 0, none⟩) 2 2]] (w7.alloc o) fun e w' => e = .returned (.tuple #[.int .i64 9, .int .i64 0]) ∧ Below (w7.alloc o).heap.size (w7.alloc o) w') := Lib.hid fun o => by
    have := sizeG_any good_exL (by rw [rank_exL]; omega) (by rw [enc_exL]; decide) _ 0 _ 2 (HV7.out.bel (h7 o))
    rw [enc_exL] at this
    exact this
  go_wp2_with fail
  go_at_call 14
  refine (HS.out _).mono ?_
  rintro e w8 ⟨rfl, hb⟩
  have h78 := (h7 _).trans (hb.mono (h7 _).size)
  have BX8 := (⟨b0, c0, c1, c2, c3⟩ : Box w7 w5.heap.size 3 0 ⟨#[]⟩ (.slice (some ⟨w4.heap.size, 0, none⟩) 2 2)).bel h78 b0
  have BY8 := (Box.new w7 exL.k exL.n exL.s (.slice pd exL.l.length cd)).bel hb (by simp)
  have HA := Lib.hid (HA.out.below h78)
  have HQ := Lib.hid (HQ.out.below h78)
  have HV8 := Lib.hid (HV7.out.bel h78)
  have HVD8 := Lib.hid (HVD.out.bel h78)
  have HB8 := Lib.hid (HB7.out.trans (h78.mono HB7.out.size))
  clear HB7 HV7 HVD HS hb h78 h7 b0 c0 c1 c2 c3
  obtain ⟨b0, c0, c1, c2, c3⟩ := BX8
  obtain ⟨y0, y1, y2, y3, y4⟩ := BY8
  have hca := strOf HA.out ca
  have hcb2 := strOf HQ.out cb
  change (convert 27 9 (.slice qa 2 ca)).run Try.prog w8 = .ok (.string ⟨#[1, 5]⟩) w8 at hca
  change (convert 27 9 (.slice qb 9 cb)).run Try.prog w8 = .ok (.string ⟨#[3, 2, 1, 200, 1, 2, 2, 97, 98]⟩) w8 at hcb2
  have HSM := Lib.hid (same_rank 2 exL exL (by rw [rank_exL]; omega) w8 0 _ _ pd 2 cd HV8.out HVD8.out)
  rw [sm_yes rfl] at HSM
  go_wp2_with fail
  go_at_call 21
  refine HSM.out.mono ?_
  rintro e w9 ⟨rfl, hb⟩
  have HB9 := Lib.hid (HB8.out.trans (hb.mono HB8.out.size))
  clear HB8 hb HSM hca hcb2 HA HQ HV8 HVD8 y0 y1 y2 y3 y4 b0 c0 c1 c2 c3
  go_wp2_with fail
  go_at_call 24
  refine (text_any ⟨#[]⟩ w9).mono ?_
  rintro e w10 ⟨rfl, hb⟩
  have HB10 := Lib.hid (HB9.out.trans (hb.mono HB9.out.size)); clear HB9 hb
  unfold vV
  go_wp2_with fail
  go_at_call 22
  refine (list_any none 0 0 w10).mono ?_
  rintro e w11 ⟨rfl, hb⟩
  have HB11 := Lib.hid (HB10.out.trans (hb.mono HB10.out.size)); clear HB10 hb
  have HSM := Lib.hid (same_rank 1 (.mk 2 0 ⟨#[]⟩ []) (.mk 3 0 ⟨#[]⟩ []) (by rw [rank_leaf]; omega) w11 0 0 none none 0 0 (VAt.leaf ⟨by decide, by decide⟩ ⟨by decide, by decide⟩ (by decide) (fun _ => rfl) (by decide)) (VAt.leaf ⟨by decide, by decide⟩ ⟨by decide, by decide⟩ (by decide) (fun _ => rfl) (by decide)))
  rw [sm_no (by intro h; injection h with h1; revert h1; decide)] at HSM
  go_wp2_with fail
  go_at_call 21
  refine HSM.out.mono ?_
  rintro e w12 ⟨rfl, hb⟩
  have HB12 := Lib.hid (HB11.out.trans (hb.mono HB11.out.size)); clear HB11 hb HSM
  go_wp2_with fail
  go_loopw [79] (fun i wr => ∃ j : Nat, j ≤ 4 ∧ i = .int .i64 j ∧ Hid (Below w.heap.size w wr ∧ w12.heap.size < wr.heap.size ∧ ∀ k (h : k < exS.length), wr.cell? ⟨w12.heap.size, k, none⟩ = some (.string exS[k]))) (fun i _ => 4 - (intOf i).toNat)
  case atStart =>
    refine ⟨0, by omega, rfl, Lib.hid ⟨HB12.out.alloc HB12.out.size _, by simp, fun k hk => ?_⟩⟩
    match k, hk with
    | 0, _ => simp [go_sem, exS]
    | 1, _ => simp [go_sem, exS]
    | 2, _ => simp [go_sem, exS]
    | 3, _ => simp [go_sem, exS]
  case round =>
    obtain ⟨j, hj, rfl, HK⟩ := hrel
    by_cases hlt : j < 4
    · have e0 := HK.out.2.2 j hlt
      have hblt := HK.out.2.1
      obtain ⟨hd, hsz⟩ := exS_dec j hlt
      generalize exS[j] = x at *
      obtain ⟨q, c, wb, hcv, hbb, hq, hc, hc2⟩ := bytes_of wr x (by omega)
      have hlen : x.data.toList.length = x.size := by rw [Array.length_toList]; rfl
      have HD := Lib.hid (decode_any x.data.toList (by omega) wb _ q c hq (by omega))
      rw [hlen, hd] at HD
      have HK2 : Hid (Below w.heap.size w wb ∧ w12.heap.size < wb.heap.size ∧ ∀ k (h : k < exS.length), wb.cell? ⟨w12.heap.size, k, none⟩ = some (.string exS[k])) := Lib.hid ⟨HK.out.1.trans (hbb.mono HK.out.1.size), Nat.lt_of_lt_of_le HK.out.2.1 hbb.size, fun k hk => (hbb.cell (p := ⟨w12.heap.size, k, none⟩) HK.out.2.1).trans (HK.out.2.2 k hk)⟩
      clear hd hsz hbb hq hc hc2 hlen
      have wj : (j : Int) < 4 := by omega
      go_wp2_with fail
      go_at_call 18
      refine HD.out.mono ?_
      rintro e w' ⟨hb, p, cap, rfl, _⟩
      have HK3 : Hid (∀ o, Below w.heap.size w (w'.alloc o) ∧ w12.heap.size < (w'.alloc o).heap.size ∧ ∀ k (h : k < exS.length), (w'.alloc o).cell? ⟨w12.heap.size, k, none⟩ = some (.string exS[k])) := Lib.hid fun o => by
        have hb2 := (hb.mono HK2.out.1.size).alloc (Nat.le_trans HK2.out.1.size hb.size) o
        have hb3 := hb.alloc hb.size o
        exact ⟨HK2.out.1.trans hb2, Nat.lt_of_lt_of_le HK2.out.2.1 hb3.size, fun k hk => (hb3.cell (p := ⟨w12.heap.size, k, none⟩) HK2.out.2.1).trans (HK2.out.2.2 k hk)⟩
      clear hb
      unfold vV
      go_wp2_with fail
      go_round
      case rel => exact ⟨j + 1, by omega, by go_num, Lib.hid (HK3.out _)⟩
      case measure => simp [intOf]; omega
    · obtain rfl : j = 4 := by omega
      have HC := Lib.hid (check_any (.mk 0 0 ⟨#[]⟩ []) (by rw [rank_leaf]; omega) wr 0 none 0 (VAt.leaf ⟨by decide, by decide⟩ ⟨by decide, by decide⟩ (by decide) (fun _ => rfl) (by decide)))
      rw [show errV (.mk 0 0 ⟨#[]⟩ []) = 1 by unfold errV; rw [if_neg (by rw [formed]; decide)]] at HC
      go_wp2_with fail
      go_at_call 16
      refine HC.out.mono ?_
      rintro e w' ⟨rfl, hb⟩
      have HB := Lib.hid (HK.out.1.trans (hb.mono HK.out.1.size))
      clear hb
      go_wp2_with fail
      go_ret
      exact ⟨rfl, HB.out⟩
end Go.Proofs.Ytopkpdaingmmeaa
