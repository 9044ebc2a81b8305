/- SpanSums: the law returns true for all arguments, without any condition. -/
import Derived.Test.YtdennlekjndfkaaSumsR
import Derived.Test.YtdennlekjndfkaaLawAddSpec
import Derived.Test.YtdennlekjndfkaaMath11
import Derived.Test.YtdennlekjndfkaaLawTidy
import Derived.Test.YtdennlekjndfkaaCommon
import Derived.Deep.RegionHeld3
import Derived.Deep.AppendLies
import Derived.Deep.CutRange
import Derived.Deep.QuietTactic
import Derived.BigQuiet
namespace Go.Proofs.Ytdennlekjndfkaa.spanSums
open Go.ChangeShapes Go.WideShapes Go.ChangeAt Go.RowKit

set_option maxRecDepth 100000 in
set_option maxHeartbeats 20000000 in
theorem walk (w : World) (p : Option Addr) (c1 : Nat) (a : List Sp) (ha : SpAt w 0 p a) (np : p = none → c1 = 0) (hac : a.length ≤ c1) (hac2 : c1 ≤ 9223372036854775807) (q : Option Addr) (c2 : Nat) (b : List Sp) (hb : SpAt w 0 q b) (nq : q = none → c2 = 0) (s : Int) (_ : (Lit.int .i64 s).wf = true) (t : Int) (_ : (Lit.int .i64 t).wf = true) (at' : Int) (wat : (Lit.int .u64 at').wf = true) :
    Calls Try.prog 7 #[.slice p a.length c1, .slice q b.length c2, .int .i64 s, .int .i64 t, .int .u64 at'] w fun e w' => e = .returned (.bool true) ∧ Below w.heap.size w w' := by
  have hla := ha.len
  have hlb := hb.len
  have HA := Lib.hid ha
  have HBb := Lib.hid hb
  have NP := Lib.hid np
  have NQ := Lib.hid nq
  have WAT := Lib.hid wat
  clear ha hb np nq wat
  by_cases hf : a.length ≤ 24 ∧ b.length ≤ 24
  · have HF : Hid ((decide (a.length ≤ 24) && decide (b.length ≤ 24)) = true) := by show _ = _; simp [hf.1, hf.2]
    obtain ⟨hfa, hfb⟩ := hf
    have HN := Lib.hid (And.intro hfa hfb)
    clear hfa hfb
    go_enter Try.func7, Try.ntmps7
    go_wp2_with fail
    refine (sane_any w).mono ?_
    rintro e w1 ⟨rfl, hb⟩
    have HB1 := Lib.hid hb
    clear hb
    go_wp2_with fail
    refine (few_any p q a.length b.length c1 c2 hla hlb _).mono ?_
    rw [HF.out]
    rintro e w1' ⟨rfl, rfl⟩
    go_wp2_with fail
    refine (add_any24 p q c1 c2 a b _ _ _ (HA.out.below HB1.out) (HBb.out.below HB1.out) (by have := HN.out; omega) (by have := HN.out; omega)).mono ?_
    rintro e w2 ⟨px, cx, rfl, hs, _, hb⟩
    have HB2 := Lib.hid (HB1.out.trans (hb.mono HB1.out.size))
    have HX := Lib.hid hs
    clear hs hb
    have hab := add_comm_ a b
    have hadd := add_any24 q p c2 c1 b a
    rw [← hab.1] at hadd
    have HADD := Lib.hid hadd
    have HCM := Lib.hid hab.2
    clear hadd hab
    go_wp2_with fail
    refine (HADD.out _ _ _ (HBb.out.below HB2.out) (HA.out.below HB2.out) (by have := HN.out; omega) (by have := HN.out; omega)).mono ?_
    rintro e w3 ⟨py, cy, rfl, hs, _, hb⟩
    have HB3 := Lib.hid (HB2.out.trans (hb.mono HB2.out.size))
    have HX := Lib.hid (HX.out.below hb)
    have HY := Lib.hid hs
    clear hs hb HADD
    have HERR := Lib.hid (addS_err (a := a) (b := b))
    have HIN0 := Lib.hid (fun (h : addE a b = 0) (h1 : inS a s = true) (h2 : inS b t = true) => add_in h h1 h2)
    have HBEST0 := Lib.hid (add_best (a := a) (b := b))
    have HEND0 := Lib.hid (fun (h : addE a b = 0) (z : Sp) (hz : z ∈ addS a b) => add_at h hz)
    have HTU0 := Lib.hid (fun (k : Nat) (x : Sp) (hx : x ∈ a) (h : addE a b = 0) => turned_add (k := k) hx HN.out.1 h)
    have HEE := Lib.hid (fun (h : addE a b = 0) => errLL_zero (add_zero' h).1)
    generalize hE1 : addE a b = E1 at *
    have HE1 := Lib.hid hE1
    clear hE1
    generalize addE b a = E2 at *
    generalize hXe : addS a b = X at *
    have HXE := Lib.hid hXe
    clear hXe
    go_wp2_with fail
    refine (same_any px py cx cy X X _ _ _ HX.out HY.out).mono ?_
    rw [decide_eq_true (rfl : X = X)]
    rintro e w4 ⟨rfl, hb⟩
    have HB4 := Lib.hid (HB3.out.trans (hb.mono HB3.out.size))
    have HX := Lib.hid (HX.out.below hb)
    clear hb HY
    by_cases g1 : E1 ≠ 0
    · have g2 : E2 ≠ 0 := fun h => g1 (HCM.out.2 h)
      have g1' : (E1 != 0) = true := by simpa using g1
      have g1'' : (E1 == 0) = false := by simpa using g1
      have g2'' : (E2 == 0) = false := by simpa using g2
      obtain rfl : X = [] := HERR.out g1
      go_wp2_with fail
      go_ret
      exact ⟨rfl, HB4.out⟩
    obtain rfl : E1 = 0 := by omega
    clear g1
    obtain rfl : E2 = 0 := HCM.out.1 rfl
    have HIN := Lib.hid (HIN0.out rfl)
    have HBEST := Lib.hid (HBEST0.out rfl)
    have HEND := Lib.hid (HEND0.out rfl)
    have HTU := Lib.hid (fun (k : Nat) (x : Sp) (hx : x ∈ a) => HTU0.out k x hx rfl)
    have HEA := Lib.hid (HEE.out rfl).1
    have HEB := Lib.hid (HEE.out rfl).2
    have HA := Lib.hid (HA.out.below HB4.out)
    have HBb := Lib.hid (HBb.out.below HB4.out)
    clear HCM HERR HEE NP NQ HB1 HB2 HB3 HF HIN0 HBEST0 HEND0 HTU0
    have hna := HN.out.1
    have hnb := HN.out.2
    go_upto_region 11 with (fail)
    go_cut [77] from 57 to 77 (fun v w' => v = .bool false ∧ Hid (Below w4.heap.size w4 w'))
    case first =>
      cases hsa : inS a s with
      | false =>
        have HSA := Lib.hid hsa
        clear hsa
        go_wp2_with fail
        refine (in_any p c1 a s _ _ HA.out).mono ?_
        rw [HSA.out]
        rintro e w5 ⟨rfl, hb⟩
        have HB5 := Lib.hid hb
        clear hb
        go_wp2_with fail
        refine (tidyB px cx X _ _ (HX.out.below HB5.out) HBEST.out).mono ?_
        rintro e w8 ⟨rfl, hb⟩
        have HB8 := Lib.hid (HB5.out.trans (hb.mono HB5.out.size))
        clear hb
        go_wp2_with fail
        go_meet
        exact ⟨rfl, HB8.out⟩
      | true =>
        have HSA := Lib.hid hsa
        clear hsa
        cases htb : inS b t with
        | false =>
          have HTB := Lib.hid htb
          clear htb
          go_wp2_with fail
          refine (in_any p c1 a s _ _ HA.out).mono ?_
          rw [HSA.out]
          rintro e w5 ⟨rfl, hb⟩
          have HB5 := Lib.hid hb
          clear hb
          go_wp2_with fail
          refine (in_any q c2 b t _ _ (HBb.out.below HB5.out)).mono ?_
          rw [HTB.out]
          rintro e w6 ⟨rfl, hb⟩
          have HB6 := Lib.hid (HB5.out.trans (hb.mono HB5.out.size))
          clear hb
          go_wp2_with fail
          refine (tidyB px cx X _ _ (HX.out.below HB6.out) HBEST.out).mono ?_
          rintro e w8 ⟨rfl, hb⟩
          have HB8 := Lib.hid (HB6.out.trans (hb.mono HB6.out.size))
          clear hb
          go_wp2_with fail
          go_meet
          exact ⟨rfl, HB8.out⟩
        | true =>
          have HTB := Lib.hid htb
          clear htb
          have r1 := in_range HEA.out HSA.out
          have r2 := in_range HEB.out HTB.out
          have HIX := Lib.hid (HIN.out HSA.out HTB.out)
          go_wp2_with fail
          refine (in_any p c1 a s _ _ HA.out).mono ?_
          rw [HSA.out]
          rintro e w5 ⟨rfl, hb⟩
          have HB5 := Lib.hid hb
          clear hb
          go_wp2_with fail
          refine (in_any q c2 b t _ _ (HBb.out.below HB5.out)).mono ?_
          rw [HTB.out]
          rintro e w6 ⟨rfl, hb⟩
          have HB6 := Lib.hid (HB5.out.trans (hb.mono HB5.out.size))
          clear hb
          go_wp2_with fail
          refine (in_any px cx X (s + t) _ _ (HX.out.below HB6.out)).mono ?_
          rw [HIX.out]
          rintro e w7 ⟨rfl, hb⟩
          have HB7 := Lib.hid (HB6.out.trans (hb.mono HB6.out.size))
          clear hb
          go_wp2_with fail
          refine (tidyB px cx X _ _ (HX.out.below HB7.out) HBEST.out).mono ?_
          rintro e w8 ⟨rfl, hb⟩
          have HB8 := Lib.hid (HB7.out.trans (hb.mono HB7.out.size))
          clear hb
          go_wp2_with fail
          go_meet
          exact ⟨rfl, HB8.out⟩
    case rest =>
      obtain ⟨rfl, HBC⟩ := hcut
      obtain ⟨W0, hW0⟩ : ∃ W0, W0 = wc := ⟨_, rfl⟩
      subst hW0
      have HA := Lib.hid (HA.out.below HBC.out)
      have HBb := Lib.hid (HBb.out.below HBC.out)
      have HX := Lib.hid (HX.out.below HBC.out)
      have HBW := Lib.hid (HB4.out.trans (HBC.out.mono HB4.out.size))
      have hnx := HBEST.out.2.2
      clear HIN HBC HB4
      go_wp2_with fail
      go_loopw [15] (fun v wr => ∃ i : Nat, i ≤ X.length ∧ v = .int .i64 i ∧ Hid (Below W0.heap.size W0 wr)) (fun v _ => X.length - (intOf v).toNat)
      case atStart => exact ⟨0, Nat.zero_le _, rfl, Below.refl _ _⟩
      case round =>
        obtain ⟨i, hi, rfl, HB⟩ := hrel
        by_cases hlt : i < X.length
        · obtain ⟨⟨k1, m1, hk1, hm1, e1⟩, ⟨k2, m2, hk2, hm2, e2⟩⟩ := HEND.out X[i] (List.getElem_mem hlt)
          have HW1 := Lib.hid e1
          have HW2 := Lib.hid e2
          clear e1 e2
          obtain ⟨bx, ox, hpx, _, hbx, hcx⟩ := HX.out.at' (by intro h; simp [h] at hlt)
          subst hpx
          obtain ⟨z1, z2⟩ := hcx i hlt
          clear hcx
          generalize X[i] = z at *
          have Hz1 := Lib.hid z1
          have Hz2 := Lib.hid z2
          clear z1 z2
          have wi1 : (i : Int) < (X.length : Int) := by omega
          have wi2 : (0 : Int) ≤ (i : Int) := by omega
          obtain ⟨wo, hwo⟩ : ∃ wo, wo = wr := ⟨_, rfl⟩
          subst hwo
          go_wp2_with fail
          go_loopw [16, 17, 18] (fun v1 v2 v wr => ∃ (k : Nat) (lo hi : Bool), k ≤ a.length ∧ v = .int .i64 k ∧ v1 = .bool lo ∧ v2 = .bool hi ∧ Hid (Seen k1 k2 k lo hi) ∧ Hid (Below W0.heap.size W0 wr)) (fun _ _ v _ => a.length - (intOf v).toNat)
          case atStart => exact ⟨0, false, false, Nat.zero_le _, rfl, rfl, rfl, ⟨fun h => by omega, fun h => by omega⟩, HB.out⟩
          case round =>
            obtain ⟨k, lo, hi', hk, rfl, rfl, rfl, HSEEN, HBk⟩ := hrel
            by_cases hltk : k < a.length
            · obtain ⟨ba, oa, hpa, _, hba, hca⟩ := HA.out.at' (by intro h; simp [h] at hltk)
              subst hpa
              obtain ⟨x1, x2⟩ := hca k hltk
              clear hca
              have HXO := Lib.hid ((okSp_iff _).1 ((errL_all HEA.out).2 _ (List.getElem_mem hltk)))
              have HV1 : Hid (k1 = k → a[k].1 + b[m1].1 = z.1) := fun e => by subst e; exact HW1.out
              have HV2 : Hid (k2 = k → a[k].2 + b[m2].2 = z.2) := fun e => by subst e; exact HW2.out
              generalize a[k] = x at *
              have Hx1 := Lib.hid x1
              have Hx2 := Lib.hid x2
              clear x1 x2
              have wk1 : (k : Int) < (a.length : Int) := by omega
              have wk2 : (0 : Int) ≤ (k : Int) := by omega
              obtain ⟨wk, hwk⟩ : ∃ wk, wk = wr := ⟨_, rfl⟩
              subst hwk
              go_wp2_with fail
              go_loopw [16, 17, 19] (fun v1 v2 v wr => ∃ (m : Nat) (lo hi : Bool), m ≤ b.length ∧ v = .int .i64 m ∧ v1 = .bool lo ∧ v2 = .bool hi ∧ Hid (Seen2 k1 m1 k2 m2 k m lo hi) ∧ Hid (Below W0.heap.size W0 wr)) (fun _ _ v _ => b.length - (intOf v).toNat)
              case atStart => exact ⟨0, lo, hi', Nat.zero_le _, rfl, rfl, rfl, ⟨fun h => HSEEN.out.1 (by omega), fun h => HSEEN.out.2 (by omega)⟩, HBk.out⟩
              case round =>
                obtain ⟨m, lo3, hi3, hm, rfl, rfl, rfl, HSEEN3, HBm⟩ := hrel
                by_cases hltm : m < b.length
                · obtain ⟨bb, ob, hpb, _, hbb, hcb⟩ := HBb.out.at' (by intro h; simp [h] at hltm)
                  subst hpb
                  obtain ⟨y1, y2⟩ := hcb m hltm
                  clear hcb
                  have HYO := Lib.hid ((okSp_iff _).1 ((errL_all HEB.out).2 _ (List.getElem_mem hltm)))
                  have HU1 : Hid (k1 = k → m1 = m → x.1 + b[m].1 = z.1) := fun e e' => by subst e'; exact HV1.out e
                  have HU2 : Hid (k2 = k → m2 = m → x.2 + b[m].2 = z.2) := fun e e' => by subst e'; exact HV2.out e
                  generalize b[m] = y at *
                  have y1 := (HBm.out.cell (p := ⟨bb, ob + m * 2, none⟩) hbb).trans y1
                  have y2 := (HBm.out.cell (p := ⟨bb, ob + m * 2 + 1, none⟩) hbb).trans y2
                  have x1 := (HBm.out.cell (p := ⟨ba, oa + k * 2, none⟩) hba).trans Hx1.out
                  have x2 := (HBm.out.cell (p := ⟨ba, oa + k * 2 + 1, none⟩) hba).trans Hx2.out
                  have z1 := (HBm.out.cell (p := ⟨bx, ox + i * 2, none⟩) hbx).trans Hz1.out
                  have z2 := (HBm.out.cell (p := ⟨bx, ox + i * 2 + 1, none⟩) hbx).trans Hz2.out
                  have wm1 : (m : Int) < (b.length : Int) := by omega
                  have wm2 : (0 : Int) ≤ (m : Int) := by omega
                  have v1 : IntKind.i64.wrap (x.1 + y.1) = x.1 + y.1 := by have := HXO.out; have := HYO.out; rw [IntKind.wrap_i64]; omega
                  have v2 : IntKind.i64.wrap (x.2 + y.2) = x.2 + y.2 := by have := HXO.out; have := HYO.out; rw [IntKind.wrap_i64]; omega
                  cases lo3 <;> cases hi3
                  all_goals
                    go_wp2_with fail
                    go_quiet (fail)
                    go_wp2_with fail
                    go_roundw
                    case rel => exact ⟨m + 1, _, _, by omega, by go_num, rfl, rfl, ⟨ends_step HSEEN3.out.1 (by simp) (fun e e' => by simp [HU1.out e e']), ends_step HSEEN3.out.2 (by simp) (fun e e' => by simp [HU2.out e e'])⟩, by first | exact below_drewN HBm.out _ | exact HBm.out.drew⟩
                    case measure => simp [intOf]; omega
                · have HS' : Hid (Seen k1 k2 (k + 1) lo3 hi3) := ⟨fun h => HSEEN3.out.1 (by omega), fun h => HSEEN3.out.2 (by omega)⟩
                  go_wp2_with fail
                  go_roundw
                  case rel => exact ⟨k + 1, lo3, hi3, by omega, by go_num, rfl, rfl, HS', HBm.out⟩
                  case measure => simp [intOf]; omega
            · obtain rfl : lo = true := HSEEN.out.1 (by omega)
              obtain rfl : hi' = true := HSEEN.out.2 (by omega)
              go_wp2_with fail
              go_roundw
              case rel => exact ⟨i + 1, by omega, by go_num, HBk.out⟩
              case measure => simp [intOf]; omega
        · clear HEND
          have HBZ := Lib.hid (HBW.out.trans (HB.out.mono HBW.out.size))
          by_cases h0 : a.length = 0
          · obtain rfl : X = [] := by
              have ha0 : a = [] := List.length_eq_zero_iff.1 h0
              rw [← HXE.out, ha0]
              exact List.eq_nil_iff_forall_not_mem.2 fun z hz => by
                obtain ⟨⟨p, hp, _⟩, _⟩ := add_ends (a := []) (b := b) (by rw [← ha0]; exact HE1.out) hz
                cases hp
            have h0' : ((a.length : Int) == 0) = true := by rw [beq_iff_eq]; omega
            go_wp2_with fail
            go_ret
            exact ⟨rfl, HBZ.out⟩
          · have h0' : ((a.length : Int) == 0) = false := by rw [beq_eq_false_iff_ne]; omega
            have hat0 : 0 ≤ at' := (bounds_u64 WAT.out).1
            have q1 : 0 ≤ at' % (a.length : Int) := Int.emod_nonneg _ (by omega)
            have q2 : at' % (a.length : Int) < (a.length : Int) := Int.emod_lt_of_pos _ (by omega)
            go_wp2_with fail
            generalize at' % (a.length : Int) = r at *
            obtain ⟨k, rfl⟩ := Int.eq_ofNat_of_zero_le q1
            have hka : k < a.length := by omega
            obtain ⟨ba, oa, hpa, _, hba, hca⟩ := HA.out.at' (by intro h; simp [h] at hka)
            subst hpa
            obtain ⟨x1, x2⟩ := hca k hka
            have HTUR := Lib.hid (HTU.out k a[k] (List.getElem_mem hka))
            have HFX := Lib.hid (HA.out.fit _ (List.getElem_mem hka))
            clear hca HTU WAT hat0 q1
            generalize hxe : a[k] = x at *
            have x1 := (HB.out.cell (p := ⟨ba, oa + k * 2, none⟩) hba).trans x1
            have x2 := (HB.out.cell (p := ⟨ba, oa + k * 2 + 1, none⟩) hba).trans x2
            have hba2 : ba < wr.heap.size := Nat.lt_of_lt_of_le hba HB.out.size
            have HAr := Lib.hid (HA.out.below HB.out)
            have HBr := Lib.hid (HBb.out.below HB.out)
            have HXr := Lib.hid (HX.out.below HB.out)
            have HBE := Lib.hid (Below.refl wr.heap.size wr)
            have HTL := Lib.hid (turned_len a k x)
            have HFT : Hid (∀ s ∈ turned a k x, FitSp s) := fun s hs => by
              unfold turned at hs
              rcases List.mem_append.1 hs with hs | hs
              · rcases List.mem_append.1 hs with hs | hs
                · exact HA.out.fit s (List.mem_of_mem_drop hs)
                · exact HA.out.fit s (List.mem_of_mem_take hs)
              · rw [List.mem_singleton.1 hs]; exact HFX.out
            have wk1 : (k : Int) < (a.length : Int) := by omega
            have wk2 : (0 : Int) ≤ (k : Int) := by omega
            have wk3 : (k : Int) ≤ (c1 : Int) := by omega
            have wk4 : (a.length : Int) ≤ (c1 : Int) := by omega
            have wk5 : (k : Int) ≤ (a.length : Int) := by omega
            have wk6 : ¬ c1 = k := by omega
            have wk7 : ¬ k = c1 := by omega
            have htk : (a.take k).length = k := by rw [List.length_take]; omega
            have hdl : (a.drop k).length = a.length - k := List.length_drop
            have hdp : 0 < a.length - k := by omega
            have hdm : a.length - k ≤ 1000 := by omega
            have hdk : (a.drop k).length + k ≤ 1000 := by rw [hdl]; omega
            have hdx : (a.drop k ++ a.take k).length + 1 ≤ 1000 := by rw [List.length_append, hdl, htk]; omega
            have hk1 : k ≤ 1000 := by omega
            go_cut [21, 22] from 154 to 173 (fun v1 v2 w' => ∃ pz cz, v1 = .slice pz X.length cz ∧ v2 = .int .i64 0 ∧ Hid (SpAt w' 0 pz X) ∧ Hid (Below wr.heap.size wr w'))
            case first =>
              refine reg29_any wr ba oa c1 a q c2 b k X hka (by have := HN.out; omega) (by have := HN.out; omega) hac hac2 (Lib.hid HAr.out) (Lib.hid HBr.out) hba2 x hxe x1 x2 (Lib.hid ⟨HTUR.out.1, HTUR.out.2.1, HTUR.out.2.2.1⟩) _ _ _ _ _ _ _ _ _ _ _ _ _ _ _ _ _ _ _ _ _ _ _ _ _ _ _ _ _ _ _ _ _ _ _ _ _ _ _ _ _ _ _ _ _ _ _ _ _ _ _ _ _ _ _ _ _ _ _ _ _ _ _ _ _ _ _ _ _ _ _ _ _ _ _ _ _ _ _ _ _ _ _ _ _ _ _ _ _ _ _ _ _ _ _ _ _ _ _ _ _ _ _ _ _ _ _ _ _ _ _ _ _ _ _ _ _ _ _ _ _ _ _ _ _ _ _ _ _ _ _ _ _ _ _ _ _ _ _ _ _ _ _ _ _ _ _ _ _ _ _ _ _ _ _ _ _ _ _ _ _ _ _ _ _ _ _ _ _ _ _ _ _ _ _ _ _ _ ?_
              intro pz cz w' _ _ _ _ _ _ _ _ _ _ _ _ _ _ _ _ _ _ _ _ hz hbz
              go_wp2_with fail
              go_meet
              exact ⟨pz, cz, rfl, rfl, hz, hbz⟩
            case rest =>
              obtain ⟨pz, cz, rfl, rfl, HZ, HBC⟩ := hcut
              go_wp2_with fail
              refine (same_any px pz cx cz X X _ _ _ (HXr.out.below HBC.out) HZ.out).mono ?_
              rw [decide_eq_true (rfl : X = X)]
              rintro e w9 ⟨rfl, hb⟩
              have HB9 := Lib.hid (HBC.out.trans (hb.mono HBC.out.size))
              clear hb
              go_wp2_with fail
              go_ret
              exact ⟨rfl, HBZ.out.trans (HB9.out.mono HBZ.out.size)⟩
  · have HF : Hid ((decide (a.length ≤ 24) && decide (b.length ≤ 24)) = false) := by
      show _ = _
      rw [Bool.and_eq_false_iff, decide_eq_false_iff_not, decide_eq_false_iff_not]; omega
    clear hf
    go_enter Try.func7, Try.ntmps7
    go_wp2_with fail
    refine (sane_any w).mono ?_
    rintro e w1 ⟨rfl, hb⟩
    have HB1 := Lib.hid hb
    clear hb
    go_wp2_with fail
    refine (few_any p q a.length b.length c1 c2 hla hlb _).mono ?_
    rw [HF.out]
    rintro e w1' ⟨rfl, rfl⟩
    go_wp2_with fail
    go_ret
    exact ⟨rfl, HB1.out⟩

section
variable {H : Type} {enc : TypeId × Value → H} {P : Program} {w : World} {base : Nat} {spare : Nat → Bool} {held : Bool}
theorem trodAll_five {t0 t1 t2 t3 t4 : TypeId} {args : Array Value} {ds : List (DataW H)} {ps : List MemPlace} (h : DataW.TrodAll enc P w base spare held [t0, t1, t2, t3, t4] args.toList ds ps) :
    ∃ v0 v1 v2 v3 v4 d0 d1 d2 d3 d4 p0 p1 p2 p3 p4, args = #[v0, v1, v2, v3, v4] ∧ ds = [d0, d1, d2, d3, d4] ∧ ps = p0 ++ p1 ++ p2 ++ p3 ++ p4 ∧ DataW.Trod enc P w base spare held t0 v0 d0 p0 ∧ DataW.Trod enc P w base spare held t1 v1 d1 p1 ∧ DataW.Trod enc P w base spare held t2 v2 d2 p2 ∧ DataW.Trod enc P w base spare held t3 v3 d3 p3 ∧ DataW.Trod enc P w base spare held t4 v4 d4 p4 := by
  obtain ⟨v0, vs0, d0, ds0, p0, q0, hargs, rfl, rfl, h0, r0⟩ := trodAll_cons h
  obtain ⟨v1, vs1, d1, ds1, p1, q1, rfl, rfl, rfl, h1, r1⟩ := trodAll_cons r0
  obtain ⟨v2, vs2, d2, ds2, p2, q2, rfl, rfl, rfl, h2, r2⟩ := trodAll_cons r1
  obtain ⟨v3, vs3, d3, ds3, p3, q3, rfl, rfl, rfl, h3, r3⟩ := trodAll_cons r2
  obtain ⟨v4, vs4, d4, ds4, p4, q4, rfl, rfl, rfl, h4, r4⟩ := trodAll_cons r3
  obtain ⟨rfl, rfl, rfl⟩ := trodAll_nil r4
  exact ⟨v0, v1, v2, v3, v4, d0, d1, d2, d3, d4, p0, p1, p2, p3, p4, by cases args; simp_all, rfl, by simp, h0, h1, h2, h3, h4⟩
theorem trodAll_mk5 {t0 t1 t2 t3 t4 : TypeId} {v0 v1 v2 v3 v4 : Value} {d0 d1 d2 d3 d4 : DataW H} {p0 p1 p2 p3 p4 : List MemPlace} (h0 : DataW.Trod enc P w base spare held t0 v0 d0 p0) (h1 : DataW.Trod enc P w base spare held t1 v1 d1 p1)
    (h2 : DataW.Trod enc P w base spare held t2 v2 d2 p2) (h3 : DataW.Trod enc P w base spare held t3 v3 d3 p3) (h4 : DataW.Trod enc P w base spare held t4 v4 d4 p4) : DataW.TrodAll enc P w base spare held [t0, t1, t2, t3, t4] [v0, v1, v2, v3, v4] [d0, d1, d2, d3, d4] (p0 ++ (p1 ++ (p2 ++ (p3 ++ p4)))) := ⟨p0, p1 ++ (p2 ++ (p3 ++ p4)), h0, trodAll_mk4 h1 h2 h3 h4, rfl⟩
end
theorem open_cap {H : Type} {enc : TypeId × Value → H} {W : World} {p : Option Addr} {n cap : Nat} {d : DataW H} {ps : List MemPlace}
    (h : DataW.Trod enc Try.prog W 0 (fun _ => true) true 24 (.slice p n cap) d ps) : n ≤ cap ∧ cap ≤ 9223372036854775807 := by
  obtain ⟨fuel, hf⟩ := h
  rcases Go.Deep.open_slice_pairs Try.underlying24 Try.underlying23 cellsSp rfl rfl cellsInt cellsInt hf with ⟨hcs, _⟩ | ⟨a, len', cap', m, n', V0, V1, D0, D1, P0, P1, hcs, _, hl, hmx, _⟩
  · simp [Value.cells] at hcs
    omega
  · simp [Value.cells] at hcs
    unfold maxLen at hmx
    omega

set_option maxHeartbeats 1000000 in
set_option maxRecDepth 100000 in
theorem lifted (os : Os) (started : os.Started) (H : Type) (enc : TypeId × Value → H) :
    ReturnsInHanded {} Try.checked os 7 .any (Rows.spanSumsSpec.pre6 enc Try.prog Try.f7 Rows.spanSumsRow.domain false) (Rows.spanSumsSpec.post enc Try.prog Try.f7 false true false false) := by
  refine returnsInHanded_of_change_sized (C := Try.checked) own' started (by kernel_rfl) Try.func7
    (ChangeSpec.witness6 (enc := enc) (C := Try.checked) false ⟨#[], #[.slice none 0 0, .slice none 0 0, .int .i64 0, .int .i64 0, .int .u64 0], []⟩ 8 (by kernel_rfl) (by kernel_rfl) (by kernel_rfl) (by kernel_rfl)) ?_
  intro W base args ds gs before hval0 hW _ hsz0 _
  have hsz : (DataW.weightsEach Try.prog (Try.f7.params.toList ++ Rows.spanSumsSpec.plain.varTypes Try.prog) (ds ++ gs)).all (· ≤ reachBytes) = true := hsz0
  clear hsz0
  have hval : ∀ (j : Nat) t v, Try.f7.params[j]? = some t → args[j]? = some v → Value.okWide Try.prog W .any base t v := hval0
  have hW' := hW
  obtain ⟨p, q, hA0, hV, rfl, _, _⟩ := hW
  have hA : DataW.TrodAll enc Try.prog W 0 (fun _ => true) true Try.f7.params.toList args.toList ds p := hA0
  rw [Try.params7] at hA hval hsz
  obtain ⟨v0, v1, v2, v3, v4, d0, d1, d2, d3, d4, p0, p1, p2, p3, p4, rfl, rfl, rfl, h0, h1, h2, h3, h4⟩ := trodAll_five hA
  obtain ⟨rfl, rfl⟩ := trodVars_none hV
  have h0k := h0
  have h1k := h1
  have h2k := h2
  have h3k := h3
  have h4k := h4
  obtain ⟨r0, c0, l0, rfl, s0, n0⟩ := open_spans (hval 0 24 v0 rfl rfl) h0 (fun elems spare e => by
    have := sized_slice hsz (j := 0) (t := 24) (e := 23) rfl (by rw [e]; rfl) Try.underlying24
    rwa [bytesSp] at this)
  obtain ⟨r1, c1, l1, rfl, s1, n1⟩ := open_spans (hval 1 24 v1 rfl rfl) h1 (fun elems spare e => by
    have := sized_slice hsz (j := 1) (t := 24) (e := 23) rfl (by rw [e]; rfl) Try.underlying24
    rwa [bytesSp] at this)
  obtain ⟨x2, rfl, rfl, rfl, w2⟩ := open_int Try.underlying3 (hval 2 3 v2 rfl rfl) h2
  obtain ⟨x3, rfl, rfl, rfl, w3⟩ := open_int Try.underlying3 (hval 3 3 v3 rfl rfl) h3
  obtain ⟨x4, rfl, rfl, rfl, w4⟩ := open_int Try.underlying41 (hval 4 41 v4 rfl rfl) h4
  clear hA0 hval0
  simp only [List.append_nil] at hW'
  have lt0 : ∀ y ∈ p0, y.block < W.heap.size := fun y hy => by simpa using hW'.lt y (by simp [hy])
  have lt1 : ∀ y ∈ p1, y.block < W.heap.size := fun y hy => by simpa using hW'.lt y (by simp [hy])
  refine (walk W r0 c0 l0 s0 n0 (open_cap h0k).1 (open_cap h0k).2 r1 c1 l1 s1 n1 x2 w2 x3 w3 x4 w4).mono fun e W' ⟨he, hn⟩ => ?_
  subst he
  exact ⟨_, rfl, _, _, _, [], _, [], hW', trodAll_mk1 (shut_bool Try.underlying4 _), trodAll_mk5 (Below.trod laidOut (by kernel_rfl) (of_decide_eq_true (by kernel_rfl)) h0k hn lt0) (Below.trod laidOut (by kernel_rfl) (of_decide_eq_true (by kernel_rfl)) h1k hn lt1) (Below.trod laidOut (by kernel_rfl) (of_decide_eq_true (by kernel_rfl)) h2k hn (fun y hy => by cases hy)) (Below.trod laidOut (by kernel_rfl) (of_decide_eq_true (by kernel_rfl)) h3k hn (fun y hy => by cases hy)) (Below.trod laidOut (by kernel_rfl) (of_decide_eq_true (by kernel_rfl)) h4k hn (fun y hy => by cases hy)), rfl, hn.frame _, fun h => by cases h⟩

theorem over : Rows.spanSumsRow.holds Try.pinned (OpenSpec.ofChange Rows.spanSumsSpec) :=
  OpenClaim.holds_of_wide 7 Try.f7 rfl rfl rfl rfl rfl rfl rfl ⟨rfl, rfl, rfl, rfl, rfl⟩ rfl rfl rfl rfl rfl (by kernel_rfl) Try.func7 (by kernel_rfl)
    (of_decide_eq_true (by kernel_rfl)) (by unfold Func.isWrapper; first | (rw [if_pos (by decide +kernel)]; kernel_rfl) | (rw [if_neg (by decide +kernel)]; exact ⟨rfl, rfl⟩))
    (fun os started H enc _ => lifted os started H enc)

theorem proved : Rows.SpanSumsSaid := over
#print axioms proved
end Go.Proofs.Ytdennlekjndfkaa.spanSums
