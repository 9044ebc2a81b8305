/- White space and comments. -/
import Derived.Test.YtdhdjfkknfbmhaaGreatDoorKSrc3
import Derived.WalkMore
namespace Go.Proofs.YtdhdjfkknfbmhaaGreatDoor
open Go.RowKit

def atOf (w : World) (sb : Nat) : Nat := (intOf ((w.cell? ⟨sb, 2, none⟩).getD undef)).toNat
theorem Src.atOf {w : World} {sb rb : Nat} {l : Bs} {at' br : Nat} (h : Src w sb rb l at' br) : atOf w sb = at' := by
  unfold Go.Proofs.YtdhdjfkknfbmhaaGreatDoor.atOf; rw [h.c2]; simp [intOf]

set_option maxHeartbeats 4000000 in
set_option maxRecDepth 100000 in
theorem skip_any (w : World) (hG : Gl w) (sb rb : Nat) (l : Bs) (at' br : Nat) (h : Src w sb rb l at' br) :
    Calls Tryz.prog 26 #[.pointer (some ⟨sb, 0, none⟩)] w fun e w' => e = .returned (.tuple #[]) ∧ Src w' sb rb l (l.length - (skp false (l.drop at')).length) br ∧ Kp w w' sb := by
  have HG := Lib.hid hG
  have HS := Lib.hid h
  have h9 := h.h9
  have hsz := S_size l
  clear hG h
  go_enter Tryz.func26, Tryz.ntmps26
  refine wp_scope_straight ?_
  go_wp2_with fail
  refine wp_label ?_
  go_wp2_with fail
  go_loopw [2] (fun cv wr => ∃ (cm : Bool) (p : Nat), cv = .bool cm ∧ Hid (Src wr sb rb l p br) ∧ at' ≤ p ∧ Hid (skp false (l.drop at') = skp cm (l.drop p)) ∧ Hid (Kp w wr sb)) (fun _ wr => l.length - atOf wr sb)
  case atStart => exact ⟨false, at', rfl, HS, Nat.le_refl _, Lib.hid rfl, Lib.hid (Kp.refl _ _)⟩
  case round =>
    obtain ⟨cm, p, rfl, HSr, hp, HK, HKp⟩ := hrel
    obtain ⟨h1, h2, h3, h4, h5, h6, h7, h8, h9', h10, h11, h12, h13⟩ := HSr.out
    clear h10
    have hfz := h5 2
    clear h5
    by_cases hlt : p < l.length
    · have hps : p < (S l).size := by omega
      have hpi : (p : Int) < (l.length : Int) := by omega
      have HGt := Lib.hid (S_get l p hps)
      have HCons : Hid (l.drop p = l[p]'hlt :: l.drop (p + 1)) := Lib.hid (List.getElem_cons_drop hlt).symm
      have HSK : Hid (skp cm (l.drop p) = if ((S l)[p]'hps).toNat = 10 then skp false (l.drop (p + 1)) else if cm = true ∨ isS ((S l)[p]'hps) = true then skp cm (l.drop (p + 1)) else if ((S l)[p]'hps).toNat = 35 then skp true (l.drop (p + 1)) else l.drop p) := Lib.hid (by
        rw [HGt.out, HCons.out, skp]
        have e1 : (l[p]'hlt = 10) ↔ (l[p]'hlt).toNat = 10 := by rw [← UInt8.toNat_inj]; rfl
        have e2 : (l[p]'hlt = 35) ↔ (l[p]'hlt).toNat = 35 := by rw [← UInt8.toNat_inj]; rfl
        simp only [e1, e2])
      have HM : Hid (Src ((wr.drew.drew).setCell ⟨sb, 2, none⟩ (.int .i64 ((p : Int) + 1))) sb rb l (p + 1) br ∧ Kp w ((wr.drew.drew).setCell ⟨sb, 2, none⟩ (.int .i64 ((p : Int) + 1))) sb) := Lib.hid (by
        have := HSr.out.drew.drew.moved (p + 1) hlt
        rw [Int.natCast_add] at this
        exact ⟨this.1, HKp.out.drew.drew.trans this.2⟩)
      have HMe : Hid (l.length - atOf ((wr.drew.drew).setCell ⟨sb, 2, none⟩ (.int .i64 ((p : Int) + 1))) sb < l.length - atOf wr sb) := Lib.hid (by rw [HM.out.1.atOf, HSr.out.atOf]; omega)
      by_cases h10 : ((S l)[p]'hps).toNat = 10
      · have HS1 := Lib.hid (HSK.out.trans (if_pos h10))
        go_wp2_with fail
        go_region
        go_wp2_with fail
        go_region
        go_wp2_with fail
        go_round
        case rel => exact ⟨false, p + 1, rfl, Lib.hid HM.out.1, by omega, Lib.hid (HK.out.trans HS1.out), Lib.hid HM.out.2⟩
        case measure => exact HMe.out
      · cases cm with
        | true =>
          have HS1 := Lib.hid (HSK.out.trans ((if_neg h10).trans (if_pos (Or.inl rfl))))
          go_wp2_with fail
          go_region
          go_wp2_with fail
          go_region
          go_wp2_with fail
          go_round
          case rel => exact ⟨true, p + 1, rfl, Lib.hid HM.out.1, by omega, Lib.hid (HK.out.trans HS1.out), Lib.hid HM.out.2⟩
          case measure => exact HMe.out
        | false =>
          have HC := in_any 0 (by decide) (l[p]'hlt) wr.drew.drew ((HG.out.kp HKp.out h9).kp ((Kp.refl wr sb).drew.drew) h9)
          rw [← HGt.out] at HC
          have HS0 := Lib.hid (HSK.out.trans (if_neg h10))
          change Calls _ _ _ _ fun e w' => e = .returned (.bool (isS ((S l)[p]'hps))) ∧ w' = wr.drew.drew at HC
          have HC' := Lib.hid HC
          clear HC
          generalize isS ((S l)[p]'hps) = f at *
          cases f with
          | true =>
            have HS1 := Lib.hid (HS0.out.trans (if_pos (Or.inr (by first | rfl | trivial))))
            go_wp2_with fail
            go_region
            go_wp2_with fail
            go_region
            go_wp2_with fail
            go_at_call 54
            refine HC'.out.mono ?_
            rintro e w2 ⟨rfl, rfl⟩
            go_wp2_with fail
            go_round
            case rel => exact ⟨false, p + 1, rfl, Lib.hid HM.out.1, by omega, Lib.hid (HK.out.trans HS1.out), Lib.hid HM.out.2⟩
            case measure => exact HMe.out
          | false =>
            have HS2 := Lib.hid (HS0.out.trans (if_neg (by simp)))
            by_cases h35 : ((S l)[p]'hps).toNat = 35
            · have HS1 := Lib.hid (HS2.out.trans (if_pos h35))
              have HC5 := HC'
              rw [h35] at HC5
              go_wp2_with fail
              go_region
              go_wp2_with fail
              go_region
              go_wp2_with fail
              go_at_call 54
              first | refine HC5.out.mono ?_ | refine HC'.out.mono ?_
              rintro e w2 ⟨rfl, rfl⟩
              go_wp2_with fail
              go_round
              case rel => exact ⟨true, p + 1, rfl, Lib.hid HM.out.1, by omega, Lib.hid (HK.out.trans HS1.out), Lib.hid HM.out.2⟩
              case measure => exact HMe.out
            · have HS1 := Lib.hid (HS2.out.trans (if_neg h35))
              have HF : Hid (Src wr.drew.drew sb rb l (l.length - (skp false (l.drop at')).length) br ∧ Kp w wr.drew.drew sb) := Lib.hid (by
                rw [HK.out, HS1.out, List.length_drop, show l.length - (l.length - p) = p by omega]
                exact ⟨HSr.out.drew.drew, HKp.out.drew.drew⟩)
              go_wp2_with fail
              go_region
              go_wp2_with fail
              go_region
              go_wp2_with fail
              go_at_call 54
              refine HC'.out.mono ?_
              rintro e w2 ⟨rfl, rfl⟩
              go_wp2_with fail
              rw [Exit.noGoto_normal]
              refine bodyPost_end (v := .tuple #[]) ?_ rfl ⟨rfl, HF.out⟩
              simp [results, Tryz.results26, go_sem]
    · have hpl : p = l.length := by omega
      have HF : Hid (Src wr.drew sb rb l (l.length - (skp false (l.drop at')).length) br ∧ Kp w wr.drew sb) := Lib.hid (by
        rw [HK.out, List.drop_of_length_le (by omega)]
        have : skp cm [] = [] := by cases cm <;> rfl
        rw [this]
        have h := HSr.out.drew
        rw [hpl] at h
        exact ⟨by simpa using h, HKp.out.drew⟩)
      go_wp2_with fail
      go_region
      go_wp2_with fail
      rw [Exit.noGoto_normal]
      refine bodyPost_end (v := .tuple #[]) ?_ rfl ⟨rfl, HF.out⟩
      simp [results, Tryz.results26, go_sem]
end Go.Proofs.YtdhdjfkknfbmhaaGreatDoor
