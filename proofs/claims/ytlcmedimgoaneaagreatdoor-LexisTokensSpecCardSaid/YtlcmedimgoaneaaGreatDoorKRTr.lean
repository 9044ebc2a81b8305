/- The specification's token: quoted texts, signs and what is none. -/
import Derived.Test.YtlcmedimgoaneaaGreatDoorKRTk
import Derived.Deep.CutBlock
import Derived.Deep.DeepCutAuto
namespace Go.Proofs.YtlcmedimgoaneaaGreatDoor
open Go.RowKit

/-- What Quoted and Sign say of the bytes from p on. -/
theorem rest_tok {l : Bs} {p : Nat} (n : NoNum l p) :
    (∃ s k, qR (l.drop p) = (s, k) ∧ 0 < k ∧ tok (l.drop p) = (4, s, k)) ∨
    ((∃ s, qR (l.drop p) = (s, 0)) ∧
      ((p + 1 < l.length ∧ signs.contains ((l.drop p).take 2) = true ∧ tok (l.drop p) = (5, (l.drop p).take 2, 2)) ∨
       ((p + 1 < l.length → signs.contains ((l.drop p).take 2) = false) ∧ signs.contains ((l.drop p).take 1) = true ∧ tok (l.drop p) = (5, (l.drop p).take 1, 1)) ∨
       ((p + 1 < l.length → signs.contains ((l.drop p).take 2) = false) ∧ signs.contains ((l.drop p).take 1) = false ∧ ∃ t, tok (l.drop p) = (0, t, 1)))) := by
  have hp := n.1
  have hhd : (l.drop p).head? = some (l[p]'hp) := by rw [drop_cons hp]; rfl
  have hqr : (∃ s k, qt (l.drop p) = some (s, k) ∧ l[p]'hp = 34) ∨ ((∃ s, qR (l.drop p) = (s, 0)) ∧ (l[p]'hp = 34 → qt (l.drop p) = none)) := by
    by_cases h34 : l[p]'hp = 34
    · cases hq : qt (l.drop p) with
      | some x => exact Or.inl ⟨x.1, x.2, rfl, h34⟩
      | none =>
        refine Or.inr ⟨⟨[], ?_⟩, fun _ => rfl⟩
        unfold qR
        rw [hq, hhd]; simp
    · refine Or.inr ⟨⟨[], ?_⟩, fun h => absurd h h34⟩
      unfold qR
      rw [hhd, if_neg (by simpa using h34)]
  rcases hqr with ⟨s, k, hq, h34⟩ | ⟨h0, hq⟩
  · left
    refine ⟨s, k, ?_, ?_, tok_text n hq h34⟩
    · unfold qR
      rw [hhd, h34, if_pos rfl, hq]; rfl
    · have := qt_le (by intro h; have := congrArg List.length h; rw [List.length_drop, List.length_nil] at this; omega) hq
      omega
  · right
    refine ⟨h0, ?_⟩
    obtain ⟨t1, t2⟩ := tok_sign n hq
    have hs := sgn_ref hp
    have hl1 : ((l.drop p).take 1).length = 1 := by rw [List.length_take, List.length_drop]; omega
    by_cases hA : p + 1 < l.length ∧ signs.contains ((l.drop p).take 2) = true
    · have hl2 : ((l.drop p).take 2).length = 2 := by rw [List.length_take, List.length_drop]; omega
      rw [if_pos hA] at hs
      refine Or.inl ⟨hA.1, hA.2, ?_⟩
      rw [t1 (by rw [hs]; intro h; rw [h] at hl2; cases hl2), hs, hl2]
    · rw [if_neg hA] at hs
      have hA' : p + 1 < l.length → signs.contains ((l.drop p).take 2) = false := fun h => by
        cases h2 : signs.contains ((l.drop p).take 2) with
        | false => rfl
        | true => exact absurd ⟨h, h2⟩ hA
      right
      cases h1 : signs.contains ((l.drop p).take 1) with
      | true =>
        rw [if_pos h1] at hs
        refine Or.inl ⟨hA', rfl, ?_⟩
        rw [t1 (by rw [hs]; intro h; rw [h] at hl1; cases hl1), hs, hl1]
      | false =>
        rw [if_neg (by rw [h1]; decide)] at hs
        exact Or.inr ⟨hA', rfl, t2 hs⟩

set_option maxHeartbeats 60000000 in
set_option maxRecDepth 100000 in
theorem tkRest_any (l : Bs) (hl : l.length ≤ 100000) (p : Nat) (nn : NoNum l p) (w : World) (B b off cap : Nat) (hat : BAt w B (some ⟨b, off, none⟩) l) (hc1 : l.length ≤ cap) (hc2 : cap ≤ 9223372036854775807) :
    Calls Tryz.prog 30 #[.slice (some ⟨b, off, none⟩) l.length cap, .int .i64 p] w fun e w' => e = .returned (.tuple #[tokR (tok (l.drop p)).1 (tok (l.drop p)).2.1 p, .int .i64 (tok (l.drop p)).2.2]) ∧ Below w.heap.size w w' := by
  obtain ⟨HP, HCV⟩ := srcFacts (cap := cap) hat p
  have HR := Lib.hid (rest_tok nn)
  obtain ⟨hp, h1, h2, h3⟩ := nn
  have HBA := Lib.hid ((Below.refl w.heap.size w).alloc (Nat.le_refl _) (.cells #[.int .i64 0, .string ⟨#[]⟩, .int .i64 0] 38))
  have HQ := Lib.hid (quotedR_any (l.drop p) (by rw [List.length_drop]; omega) _ B (some ⟨b, off + p, none⟩) (cap - p) ((hat.bel HBA.out (Nat.le_refl _)).drop p))
  rw [List.length_drop] at HQ
  clear hat
  obtain ⟨T1, hT1⟩ : ∃ T, (l.drop p).take 1 = T := ⟨_, rfl⟩
  obtain ⟨T2, hT2⟩ : ∃ T, (l.drop p).take 2 = T := ⟨_, rfl⟩
  rw [hT1, hT2] at HR
  have HS2 := Lib.hid (refSign_any T2)
  have HS1 := Lib.hid (refSign_any T1)
  have HT1 := Lib.hid hT1
  have HT2 := Lib.hid hT2
  clear hT1 hT2
  generalize tok (l.drop p) = tk at *
  generalize qR (l.drop p) = qr at *
  obtain ⟨q1, q2⟩ := qr
  have HL1 := Lib.hid (letter_any l[p] (w.alloc (.cells #[.int .i64 0, .string ⟨#[]⟩, .int .i64 0] 38)))
  have HD1 := Lib.hid (digit_any l[p] (w.alloc (.cells #[.int .i64 0, .string ⟨#[]⟩, .int .i64 0] 38)))
  rw [h1] at HL1
  rw [h2] at HD1
  have y0 := HP.out _ HBA.out p hp
  have hpi : (p : Int) < (l.length : Int) := by omega
  have hcp : ¬ cap = p := by omega
  have hcb := byte_le l[p]
  have H3 := Lib.hid h3
  clear h1 h2 h3
  generalize l[p] = c at *
  go_enter Tryz.func30, Tryz.ntmps30
  go_upto_region 7 with (go_at_call 64; refine HL1.out.mono ?_; rintro e w1 ⟨rfl, rfl⟩)
  go_cut [63] from 43 to 62 (fun v wc => v = .bool false ∧ wc = w.alloc (.cells #[.int .i64 0, .string ⟨#[]⟩, .int .i64 0] 38))
  case first =>
    by_cases h45 : c = 45
    · have b45 : ((c.toNat : Int) == 45) = true := by rw [h45]; rfl
      by_cases hlt1 : p + 1 < l.length
      · have hlt1i : (p : Int) + 1 < (l.length : Int) := by omega
        have y1 := HP.out _ HBA.out (p + 1) hlt1
        have HD2 := Lib.hid (digit_any (l[p + 1]'hlt1) (w.alloc (.cells #[.int .i64 0, .string ⟨#[]⟩, .int .i64 0] 38)))
        rw [H3.out h45 hlt1] at HD2
        clear h45
        generalize (l[p + 1]'hlt1).toNat = c2 at *
        go_wp2_with (go_at_call 66; first | (refine HD1.out.mono ?_; rintro e w' ⟨rfl, rfl⟩) | (refine HD2.out.mono ?_; rintro e w' ⟨rfl, rfl⟩))
        go_meet
        exact ⟨rfl, rfl⟩
      · have hlt1i : ¬ (p : Int) + 1 < (l.length : Int) := by omega
        clear h45
        go_wp2_with (go_at_call 66; refine HD1.out.mono ?_; rintro e w' ⟨rfl, rfl⟩)
        go_meet
        exact ⟨rfl, rfl⟩
    · have b45 := byte_ne h45 45 rfl
      clear h45
      go_wp2_with (go_at_call 66; refine HD1.out.mono ?_; rintro e w' ⟨rfl, rfl⟩)
      go_meet
      exact ⟨rfl, rfl⟩
  case rest =>
    obtain ⟨rfl, rfl⟩ := hcut
    clear H3 HD1 HL1 y0
    go_wp2_with fail
    go_at_call 67
    refine HQ.out.mono ?_
    rintro e w2 ⟨rfl, hb2⟩
    have HZ := Lib.hid (zat hb2)
    have HB2 := Lib.hid (HBA.out.trans (hb2.mono HBA.out.size))
    clear hb2 HQ
    obtain ⟨⟨z0, z1, z2⟩, ⟨f0, f1, f2⟩, hlw⟩ := HZ.out
    rcases HR.out with ⟨s, k, hqr, hk0, rfl⟩ | ⟨⟨s, hqr⟩, hsg⟩
    · cases hqr
      have hki : (0 : Int) < (q2 : Int) := by omega
      clear HR
      go_wp2_with fail
      have HC := tok3_cells (.int .i64 4) (.string (S q1)) (.int .i64 p) z0 z1 z2
      unfold tok3 at HC
      obtain ⟨c0, c1, c2⟩ := HC
      refine bodyPost_ret (v := .tuple #[.agg #[.int .i64 4, .string (S q1), .int .i64 p], .int .i64 q2]) ?_ rfl ⟨rfl, tok3_below HB2.out (Nat.le_refl _) _ _ _⟩
      simp [results, Tryz.results30, go_sem, c0, c1, c2]
    · cases hqr
      have hcv1 := HCV.out _ HB2.out (p + 1) (by omega) (by omega)
      rw [Nat.add_sub_cancel_left, HT1.out] at hcv1
      have HSG1 := Lib.hid (HS1.out w2)
      rcases hsg with ⟨hlt1, hA, rfl⟩ | ⟨hA, hB, rfl⟩ | ⟨hA, hB, t, rfl⟩
      · have hlt1i : (p : Int) + 1 < (l.length : Int) := by omega
        have hcv2 := HCV.out _ HB2.out (p + 2) (by omega) (by omega)
        rw [Nat.add_sub_cancel_left, HT2.out] at hcv2
        have HSG2 := Lib.hid (HS2.out w2)
        rw [hA] at HSG2
        clear hA HR HS1 HS2
        go_wp2_with (go_at_call 36; refine HSG2.out.mono ?_; rintro e w' ⟨rfl, rfl⟩)
        have HC := tok3_cells (.int .i64 5) (.string (S T2)) (.int .i64 p) z0 z1 z2
        unfold tok3 at HC
        obtain ⟨c0, c1, c2⟩ := HC
        refine bodyPost_ret (v := .tuple #[.agg #[.int .i64 5, .string (S T2), .int .i64 p], .int .i64 2]) ?_ rfl ⟨rfl, tok3_below HB2.out (Nat.le_refl _) _ _ _⟩
        simp [results, Tryz.results30, go_sem, c0, c1, c2]
      · rw [hB] at HSG1
        by_cases hlt1 : p + 1 < l.length
        · have hlt1i : (p : Int) + 1 < (l.length : Int) := by omega
          have hcv2 := HCV.out _ HB2.out (p + 2) (by omega) (by omega)
          rw [Nat.add_sub_cancel_left, HT2.out] at hcv2
          have HSG2 := Lib.hid (HS2.out w2)
          rw [hA hlt1] at HSG2
          clear hA hB HR HS1 HS2
          go_upto_region 23 with (go_at_call 36; refine HSG2.out.mono ?_; rintro e w' ⟨rfl, rfl⟩)
          go_wp2_with (go_at_call 36; refine HSG1.out.mono ?_; rintro e w' ⟨rfl, rfl⟩)
          have HC := tok3_cells (.int .i64 5) (.string (S T1)) (.int .i64 p) z0 z1 z2
          unfold tok3 at HC
          obtain ⟨c0, c1, c2⟩ := HC
          refine bodyPost_ret (v := .tuple #[.agg #[.int .i64 5, .string (S T1), .int .i64 p], .int .i64 1]) ?_ rfl ⟨rfl, tok3_below HB2.out (Nat.le_refl _) _ _ _⟩
          simp [results, Tryz.results30, go_sem, c0, c1, c2]
        · have hlt1i : ¬ (p : Int) + 1 < (l.length : Int) := by omega
          clear hA hB HR HS1 HS2
          go_wp2_with (go_at_call 36; refine HSG1.out.mono ?_; rintro e w' ⟨rfl, rfl⟩)
          have HC := tok3_cells (.int .i64 5) (.string (S T1)) (.int .i64 p) z0 z1 z2
          unfold tok3 at HC
          obtain ⟨c0, c1, c2⟩ := HC
          refine bodyPost_ret (v := .tuple #[.agg #[.int .i64 5, .string (S T1), .int .i64 p], .int .i64 1]) ?_ rfl ⟨rfl, tok3_below HB2.out (Nat.le_refl _) _ _ _⟩
          simp [results, Tryz.results30, go_sem, c0, c1, c2]
      · rw [hB] at HSG1
        by_cases hlt1 : p + 1 < l.length
        · have hlt1i : (p : Int) + 1 < (l.length : Int) := by omega
          have hcv2 := HCV.out _ HB2.out (p + 2) (by omega) (by omega)
          rw [Nat.add_sub_cancel_left, HT2.out] at hcv2
          have HSG2 := Lib.hid (HS2.out w2)
          rw [hA hlt1] at HSG2
          clear hA hB HR HS1 HS2
          go_upto_region 23 with (go_at_call 36; refine HSG2.out.mono ?_; rintro e w' ⟨rfl, rfl⟩)
          go_wp2_with (go_at_call 36; refine HSG1.out.mono ?_; rintro e w' ⟨rfl, rfl⟩)
          have HC := tok3_cells (.int .i64 0) (.string ⟨#[]⟩) (.int .i64 0) z0 z1 z2
          unfold tok3 at HC
          obtain ⟨c0, c1, c2⟩ := HC
          refine bodyPost_ret (v := .tuple #[.agg #[.int .i64 0, .string ⟨#[]⟩, .int .i64 0], .int .i64 1]) ?_ rfl ⟨rfl, tok3_below HB2.out (Nat.le_refl _) _ _ _⟩
          simp [results, Tryz.results30, go_sem, c0, c1, c2]
        · have hlt1i : ¬ (p : Int) + 1 < (l.length : Int) := by omega
          clear hA hB HR HS1 HS2
          go_wp2_with (go_at_call 36; refine HSG1.out.mono ?_; rintro e w' ⟨rfl, rfl⟩)
          have HC := tok3_cells (.int .i64 0) (.string ⟨#[]⟩) (.int .i64 0) z0 z1 z2
          unfold tok3 at HC
          obtain ⟨c0, c1, c2⟩ := HC
          refine bodyPost_ret (v := .tuple #[.agg #[.int .i64 0, .string ⟨#[]⟩, .int .i64 0], .int .i64 1]) ?_ rfl ⟨rfl, tok3_below HB2.out (Nat.le_refl _) _ _ _⟩
          simp [results, Tryz.results30, go_sem, c0, c1, c2]
end Go.Proofs.YtlcmedimgoaneaaGreatDoor
