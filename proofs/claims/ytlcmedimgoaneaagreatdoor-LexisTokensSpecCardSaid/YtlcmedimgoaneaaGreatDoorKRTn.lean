/- The specification's token: numbers. -/
import Derived.Test.YtlcmedimgoaneaaGreatDoorKRTk
import Derived.Deep.CutBlock
import Derived.Deep.DeepCutAuto
namespace Go.Proofs.YtlcmedimgoaneaaGreatDoor
open Go.RowKit

set_option maxHeartbeats 60000000 in
set_option maxRecDepth 100000 in
theorem tkNum_any (l : Bs) (hl : l.length ≤ 100000) (p : Nat) (hp : p < l.length) (h1 : isL l[p] = false) (h2 : isD l[p] = true ∨ (l[p] = 45 ∧ ∃ h2 : p + 1 < l.length, isD l[p + 1] = true)) (w : World) (B b off cap : Nat) (hat : BAt w B (some ⟨b, off, none⟩) l) (hc1 : l.length ≤ cap) (hc2 : cap ≤ 9223372036854775807) :
    Calls Tryz.prog 30 #[.slice (some ⟨b, off, none⟩) l.length cap, .int .i64 p] w fun e w' => e = .returned (.tuple #[tokR (tok (l.drop p)).1 (tok (l.drop p)).2.1 p, .int .i64 (tok (l.drop p)).2.2]) ∧ Below w.heap.size w w' := by
  obtain ⟨HP, HCV⟩ := srcFacts (cap := cap) hat p
  clear hat
  obtain ⟨K, hK⟩ : ∃ K, numLen (l.drop (p + 1)) + 1 = K := ⟨_, rfl⟩
  obtain ⟨t, ht⟩ : ∃ t, (l.drop p).take K = t := ⟨_, rfl⟩
  rw [tok_num hp h1 h2 (t := t) (by rw [hK, ht]), hK]
  have htl : t.length ≤ 100000 := by rw [← ht, List.length_take, List.length_drop]; omega
  have HK := Lib.hid hK
  have HT := Lib.hid ht
  clear hK ht
  have HL1 := Lib.hid (letter_any l[p] (w.alloc (.cells #[.int .i64 0, .string ⟨#[]⟩, .int .i64 0] 38)))
  have HD1 := Lib.hid (digit_any l[p] (w.alloc (.cells #[.int .i64 0, .string ⟨#[]⟩, .int .i64 0] 38)))
  rw [h1] at HL1
  have HBA := Lib.hid ((Below.refl w.heap.size w).alloc (Nat.le_refl _) (.cells #[.int .i64 0, .string ⟨#[]⟩, .int .i64 0] 38))
  have y0 := HP.out _ HBA.out p hp
  have hpi : (p : Int) < (l.length : Int) := by omega
  have hcp : ¬ cap = p := by omega
  have hcb := byte_le l[p]
  have HINT := Lib.hid (integer_any t (by omega) (w.alloc (.cells #[.int .i64 0, .string ⟨#[]⟩, .int .i64 0] 38)))
  have HTIME := Lib.hid (refTime_any t (by omega) (w.alloc (.cells #[.int .i64 0, .string ⟨#[]⟩, .int .i64 0] 38)))
  have HSE : Hid (timeE t = if (timeV t).isSome = true then 0 else 50) := Lib.hid rfl
  have H2 : Hid ((isD l[p] = true) ∨ (isD l[p] = false ∧ ((l[p].toNat : Int) == 45) = true ∧ ∃ h2 : p + 1 < l.length, isD l[p + 1] = true)) := Lib.hid (by
    cases hd : isD l[p] with
    | true => exact Or.inl rfl
    | false =>
      rw [hd] at h2
      rcases h2 with h2 | ⟨h3, h4⟩
      · cases h2
      · exact Or.inr ⟨rfl, by rw [h3]; rfl, h4⟩)
  clear h1 h2
  generalize isD l[p] = dg at *
  generalize l[p].toNat = c at *
  generalize int t = it at *
  generalize timeT t = tt at *
  generalize timeE t = te at *
  generalize (timeV t).isSome = so at *
  go_enter Tryz.func30, Tryz.ntmps30
  go_upto_region 7 with (go_at_call 64; refine HL1.out.mono ?_; rintro e w1 ⟨rfl, rfl⟩)
  go_cut [63] from 43 to 62 (fun v wc => v = .bool true ∧ wc = w.alloc (.cells #[.int .i64 0, .string ⟨#[]⟩, .int .i64 0] 38))
  case first =>
    rcases H2.out with rfl | ⟨rfl, h45, hlt1, hd2⟩
    · go_wp2_with (go_at_call 66; refine HD1.out.mono ?_; rintro e w' ⟨rfl, rfl⟩)
      go_meet
      exact ⟨rfl, rfl⟩
    · have hlt1i : (p : Int) + 1 < (l.length : Int) := by omega
      have y1 := HP.out _ HBA.out (p + 1) hlt1
      have HD2 := Lib.hid (digit_any (l[p + 1]'hlt1) (w.alloc (.cells #[.int .i64 0, .string ⟨#[]⟩, .int .i64 0] 38)))
      rw [hd2] at HD2
      clear hd2
      generalize (l[p + 1]'hlt1).toNat = c2 at *
      go_wp2_with (go_at_call 66; first | (refine HD1.out.mono ?_; rintro e w' ⟨rfl, rfl⟩) | (refine HD2.out.mono ?_; rintro e w' ⟨rfl, rfl⟩))
      go_meet
      exact ⟨rfl, rfl⟩
  case rest =>
    obtain ⟨rfl, rfl⟩ := hcut
    clear H2 HD1 HL1 y0
    go_upto_block 2 with fail
    go_cut [7] from 66 to 105 (fun v wc => ∃ n : Nat, v = .int .i64 n ∧ n = p + K ∧ n ≤ l.length ∧ wc = w.alloc (.cells #[.int .i64 0, .string ⟨#[]⟩, .int .i64 0] 38))
    case first =>
      clear HINT HTIME
      go_wp2_with fail
      go_loopw [7] (fun v wr => ∃ n : Nat, p + 1 ≤ n ∧ n ≤ l.length ∧ v = .int .i64 n ∧ Hid (n - p + numLen (l.drop n) = K) ∧ wr = w.alloc (.cells #[.int .i64 0, .string ⟨#[]⟩, .int .i64 0] 38)) (fun v _ => l.length - (intOf v).toNat)
      case atStart => exact ⟨p + 1, Nat.le_refl _, by omega, by go_num, Lib.hid (by rw [← HK.out]; omega), rfl⟩
      case round =>
        obtain ⟨n, hn1, hn2, rfl, HN, rfl⟩ := hrel
        by_cases hlt : n < l.length
        · have hlti : (n : Int) < (l.length : Int) := by omega
          have y1 := HP.out _ HBA.out n hlt
          have HI := Lib.hid (inner_any (l[n]'hlt) (w.alloc (.cells #[.int .i64 0, .string ⟨#[]⟩, .int .i64 0] 38)))
          have HG := Lib.hid (nm_go hlt)
          have HS := Lib.hid (nm_stop hlt)
          have hdb := byte_le (l[n]'hlt)
          generalize hiw : isW (l[n]'hlt) = iw at *
          cases iw with
          | true =>
            have HN2 : Hid (n + 1 - p + numLen (l.drop (n + 1)) = K) := Lib.hid (by have := HN.out; rw [HG.out (Or.inl rfl)] at this; omega)
            clear HG HS hiw
            generalize (l[n]'hlt).toNat = d at *
            go_wp2_with (go_at_call 65; refine HI.out.mono ?_; rintro e w' ⟨rfl, rfl⟩)
            go_roundw
            case rel => exact ⟨n + 1, by omega, by omega, by go_num, HN2, trivial⟩
            case measure => simp [intOf]; omega
          | false =>
            have HGO : Hid (∀ h2 : n + 1 < l.length, (l[n]'hlt = 58 ∨ l[n]'hlt = 46) → isD (l[n + 1]'h2) = true → n + 1 - p + numLen (l.drop (n + 1)) = K) := Lib.hid fun h2 h3 h4 => by
              have := HN.out; rw [HG.out (Or.inr ⟨h3, h2, h4⟩)] at this; omega
            have HST : Hid (((l[n]'hlt = 58 ∨ l[n]'hlt = 46) → ∀ h2 : n + 1 < l.length, isD (l[n + 1]'h2) = false) → n = p + K) := Lib.hid fun h2 => by
              have := HN.out; rw [HS.out rfl h2] at this; omega
            clear HG HS hiw
            generalize (l[n]'hlt) = d at *
            by_cases h58 : d = 58
            · have e58 : ((d.toNat : Int) == 58) = true := by rw [h58]; rfl
              by_cases hlt2 : n + 1 < l.length
              · have hlt2i : (n : Int) + 1 < (l.length : Int) := by omega
                have y2 := HP.out _ HBA.out (n + 1) hlt2
                have HD := Lib.hid (digit_any (l[n + 1]'hlt2) (w.alloc (.cells #[.int .i64 0, .string ⟨#[]⟩, .int .i64 0] 38)))
                have HGO2 := Lib.hid (HGO.out hlt2 (Or.inl h58))
                have HST2 : Hid (isD (l[n + 1]'hlt2) = false → n = p + K) := Lib.hid fun h => HST.out fun _ _ => h
                generalize isD (l[n + 1]'hlt2) = dd at *
                generalize (l[n + 1]'hlt2).toNat = d2 at *
                clear h58 HGO HST
                cases dd with
                | true =>
                  have HN2 := Lib.hid (HGO2.out rfl)
                  go_wp2_with (first | (go_at_call 65; refine HI.out.mono ?_; rintro e w' ⟨rfl, rfl⟩) | (go_at_call 66; refine HD.out.mono ?_; rintro e w' ⟨rfl, rfl⟩))
                  go_roundw
                  case rel => exact ⟨n + 1, by omega, by omega, by go_num, HN2, trivial⟩
                  case measure => simp [intOf]; omega
                | false =>
                  have hK := Lib.hid (HST2.out rfl)
                  go_wp2_with (first | (go_at_call 65; refine HI.out.mono ?_; rintro e w' ⟨rfl, rfl⟩) | (go_at_call 66; refine HD.out.mono ?_; rintro e w' ⟨rfl, rfl⟩))
                  go_meet
                  exact ⟨n, rfl, hK.out, hn2, rfl⟩
              · have hlt2i : ¬ (n : Int) + 1 < (l.length : Int) := by omega
                have hK := Lib.hid (HST.out fun _ h => absurd h hlt2)
                clear h58 HGO HST
                go_wp2_with (go_at_call 65; refine HI.out.mono ?_; rintro e w' ⟨rfl, rfl⟩)
                go_meet
                exact ⟨n, rfl, hK.out, hn2, rfl⟩
            have b58 := byte_ne h58 58 rfl
            by_cases h46 : d = 46
            · have e46 : ((d.toNat : Int) == 46) = true := by rw [h46]; rfl
              by_cases hlt2 : n + 1 < l.length
              · have hlt2i : (n : Int) + 1 < (l.length : Int) := by omega
                have y2 := HP.out _ HBA.out (n + 1) hlt2
                have HD := Lib.hid (digit_any (l[n + 1]'hlt2) (w.alloc (.cells #[.int .i64 0, .string ⟨#[]⟩, .int .i64 0] 38)))
                have HGO2 := Lib.hid (HGO.out hlt2 (Or.inr h46))
                have HST2 : Hid (isD (l[n + 1]'hlt2) = false → n = p + K) := Lib.hid fun h => HST.out fun _ _ => h
                generalize isD (l[n + 1]'hlt2) = dd at *
                generalize (l[n + 1]'hlt2).toNat = d2 at *
                clear h58 h46 HGO HST
                cases dd with
                | true =>
                  have HN2 := Lib.hid (HGO2.out rfl)
                  go_wp2_with (first | (go_at_call 65; refine HI.out.mono ?_; rintro e w' ⟨rfl, rfl⟩) | (go_at_call 66; refine HD.out.mono ?_; rintro e w' ⟨rfl, rfl⟩))
                  go_roundw
                  case rel => exact ⟨n + 1, by omega, by omega, by go_num, HN2, trivial⟩
                  case measure => simp [intOf]; omega
                | false =>
                  have hK := Lib.hid (HST2.out rfl)
                  go_wp2_with (first | (go_at_call 65; refine HI.out.mono ?_; rintro e w' ⟨rfl, rfl⟩) | (go_at_call 66; refine HD.out.mono ?_; rintro e w' ⟨rfl, rfl⟩))
                  go_meet
                  exact ⟨n, rfl, hK.out, hn2, rfl⟩
              · have hlt2i : ¬ (n : Int) + 1 < (l.length : Int) := by omega
                have hK := Lib.hid (HST.out fun _ h => absurd h hlt2)
                clear h58 h46 HGO HST
                go_wp2_with (go_at_call 65; refine HI.out.mono ?_; rintro e w' ⟨rfl, rfl⟩)
                go_meet
                exact ⟨n, rfl, hK.out, hn2, rfl⟩
            have b46 := byte_ne h46 46 rfl
            have hK := Lib.hid (HST.out fun h => h.elim (fun h => absurd h h58) (fun h => absurd h h46))
            clear h58 h46 HGO HST
            go_wp2_with (go_at_call 65; refine HI.out.mono ?_; rintro e w' ⟨rfl, rfl⟩)
            go_meet
            exact ⟨n, rfl, hK.out, hn2, rfl⟩
        · have hlti : ¬ (n : Int) < (l.length : Int) := by omega
          have hK : Hid (n = p + K) := Lib.hid (by have := HN.out; rw [List.drop_of_length_le (by omega)] at this; have h0 : numLen [] = 0 := rfl; rw [h0] at this; omega)
          go_wp2_with fail
          go_meet
          exact ⟨n, rfl, hK.out, hn2, rfl⟩
    case rest =>
      obtain ⟨n, rfl, hnK, hn2, rfl⟩ := hcut
      have hK : n - p = K := by omega
      have hKi : (n : Int) - p = K := by omega
      have hcv := HCV.out _ HBA.out n (by omega) hn2
      rw [hK, HT.out] at hcv
      clear hnK
      cases it with
      | true =>
        go_wp2_with (go_at_call 33; refine HINT.out.mono ?_; rintro e w' ⟨rfl, rfl⟩)
        refine bodyPost_ret (v := .tuple #[.agg #[.int .i64 2, .string (S t), .int .i64 p], .int .i64 K]) ?_ rfl ⟨rfl, (Below.refl w.heap.size w).alloc (Nat.le_refl _) _⟩
        simp [results, Tryz.results30, go_sem]
      | false =>
        go_wp2_with (go_at_call 33; refine HINT.out.mono ?_; rintro e w' ⟨rfl, rfl⟩)
        go_at_call 23
        refine HTIME.out.mono ?_
        rintro e w2 ⟨rfl, hb2⟩
        have HZ := Lib.hid (zat hb2)
        have HB2 := Lib.hid (HBA.out.trans (hb2.mono HBA.out.size))
        clear hb2
        obtain ⟨⟨z0, z1, z2⟩, ⟨f0, f1, f2⟩, hlw⟩ := HZ.out
        cases so with
        | true =>
          have hte : te = 0 := HSE.out
          subst hte
          go_wp2_with fail
          have HC := tok3_cells (.int .i64 3) (.string (S t)) (.int .i64 p) z0 z1 z2
          unfold tok3 at HC
          obtain ⟨c0, c1, c2⟩ := HC
          refine bodyPost_ret (v := .tuple #[.agg #[.int .i64 3, .string (S t), .int .i64 p], .int .i64 K]) ?_ rfl ⟨rfl, tok3_below HB2.out (Nat.le_refl _) _ _ _⟩
          simp [results, Tryz.results30, go_sem, c0, c1, c2]
        | false =>
          have hte : te = 50 := HSE.out
          subst hte
          go_wp2_with fail
          have HC := tok3_cells (.int .i64 0) (.string ⟨#[]⟩) (.int .i64 0) z0 z1 z2
          unfold tok3 at HC
          obtain ⟨c0, c1, c2⟩ := HC
          refine bodyPost_ret (v := .tuple #[.agg #[.int .i64 0, .string ⟨#[]⟩, .int .i64 0], .int .i64 K]) ?_ rfl ⟨rfl, tok3_below HB2.out (Nat.le_refl _) _ _ _⟩
          simp [results, Tryz.results30, go_sem, c0, c1, c2]
end Go.Proofs.YtlcmedimgoaneaaGreatDoor
