/- tidyLists and Meet. -/
import Derived.Test.YtdennlekjndfkaaUnion
import Derived.Test.YtdennlekjndfkaaCommon
import Derived.Test.YtdennlekjndfkaaMath8
namespace Go.Proofs.Ytdennlekjndfkaa
open Go.RowKit

theorem setS_ok {l : List Sp} (h : errL l = 0) : setS l = canon l := by unfold setS; rw [if_pos h]
theorem set_ok (p : Option Addr) (cap : Nat) (l : List Sp) (w : World) (B : Nat) (hl : SpAt w B p l) (h : errL l = 0) :
    Calls Try.prog 13 #[.slice p l.length cap] w (Res w (canon l) 0) := by
  have := (set_any p cap l w B hl).mono (fun e w' h => h.res)
  rw [setS_ok h, h] at this
  exact this
theorem set_bad (p : Option Addr) (cap : Nat) (l : List Sp) (w : World) (B : Nat) (hl : SpAt w B p l) (h : ¬ errL l = 0) :
    Calls Try.prog 13 #[.slice p l.length cap] w (Res w [] (errL l)) := by
  have := (set_any p cap l w B hl).mono (fun e w' h => h.res)
  rw [show setS l = [] by unfold setS; rw [if_neg h]] at this
  exact this

set_option maxHeartbeats 1000000 in
theorem tidy_ok (p q : Option Addr) (cap cap' : Nat) (a b : List Sp) (w : World) (B B' : Nat) (ha : SpAt w B p a) (hb : SpAt w B' q b) (h : errLL a b = 0) :
    Calls Try.prog 41 #[.slice p a.length cap, .slice q b.length cap'] w fun e w' => ∃ p' c' q' d', e = .returned (.tuple #[.slice p' (canon a).length c', .slice q' (canon b).length d', .int .i64 0]) ∧ SpAt w' w.heap.size p' (canon a) ∧ SpAt w' w.heap.size q' (canon b) ∧ Below w.heap.size w w' := by
  have HE1 := Lib.hid (errLL_zero h).1
  have HE2 := Lib.hid (errLL_zero h).2
  have HA := Lib.hid (set_ok p cap a w B ha HE1.out)
  have HBB := Lib.hid hb
  clear h ha hb
  go_enter Try.func41, Try.ntmps41
  go_wp2_with fail
  refine HA.out.mono ?_
  rintro e w1 ⟨p1, c1, rfl, hs1, _, hb1⟩
  have HB1 := Lib.hid hb1
  have HS1 := Lib.hid hs1
  have HC := Lib.hid (set_ok q cap' b w1 B' (HBB.out.below hb1) HE2.out)
  clear hb1 hs1
  go_wp2_with fail
  refine HC.out.mono ?_
  rintro e w2 ⟨p2, c2, rfl, hs2, _, hb2⟩
  have HB2 := Lib.hid hb2
  have HS2 := Lib.hid hs2
  clear hb2 hs2
  go_wp2_with fail
  go_ret3
  exact ⟨p1, c1, p2, c2, rfl, HS1.out.below HB2.out, HS2.out.mono HB1.out.size, HB1.out.trans (HB2.out.mono HB1.out.size)⟩

set_option maxHeartbeats 1000000 in
theorem tidy_bad (p q : Option Addr) (cap cap' : Nat) (a b : List Sp) (w : World) (B B' : Nat) (ha : SpAt w B p a) (hb : SpAt w B' q b) (h : ¬ errLL a b = 0) :
    Calls Try.prog 41 #[.slice p a.length cap, .slice q b.length cap'] w fun e w' => e = .returned (.tuple #[.slice none 0 0, .slice none 0 0, .int .i64 (errLL a b)]) ∧ Below w.heap.size w w' := by
  by_cases g : errL a = 0
  · have g2 : ¬ errL b = 0 := fun g2 => h (by unfold errLL; rw [if_pos g, g2])
    have HR := Lib.hid (show errLL a b = errL b by unfold errLL; rw [if_pos g])
    have HE1 := Lib.hid g
    have HE2 := Lib.hid g2
    have HA := Lib.hid (set_ok p cap a w B ha HE1.out)
    have HBB := Lib.hid hb
    have hz2 : (errL b != 0) = true := by simpa using g2
    generalize hE : errL b = er at *
    have HER := Lib.hid hE
    clear h ha hb g g2 hE
    go_enter Try.func41, Try.ntmps41
    go_wp2_with fail
    refine HA.out.mono ?_
    rintro e w1 ⟨p1, c1, rfl, hs1, _, hb1⟩
    have HB1 := Lib.hid hb1
    have HC := Lib.hid (set_bad q cap' b w1 B' (HBB.out.below hb1) (by rw [HER.out]; exact HE2.out))
    rw [HER.out] at HC
    clear hb1 hs1
    go_wp2_with fail
    refine HC.out.mono ?_
    rintro e w2 ⟨p2, c2, rfl, hs2, _, hb2⟩
    have HB2 := Lib.hid hb2
    clear hb2 hs2
    go_wp2_with fail
    go_ret3
    exact ⟨by rw [HR.out]; rfl, HB1.out.trans (HB2.out.mono HB1.out.size)⟩
  · have HR := Lib.hid (show errLL a b = errL a by unfold errLL; rw [if_neg g])
    have HC := Lib.hid (set_bad p cap a w B ha g)
    have hz2 : (errL a != 0) = true := by simpa using g
    generalize hE : errL a = er at *
    clear h ha hb hE g
    go_enter Try.func41, Try.ntmps41
    go_wp2_with fail
    refine HC.out.mono ?_
    rintro e w2 ⟨p2, c2, rfl, hs2, _, hb2⟩
    have HB2 := Lib.hid hb2
    clear hb2 hs2
    go_wp2_with fail
    go_ret3
    exact ⟨by rw [HR.out]; rfl, HB2.out⟩

theorem eg53 : ∀ args w, (callFunc 53 args).run Try.prog w = .ok (.enter 53 args) w := enters_of Try.func53 (by kernel_rfl) rfl
theorem Safe.start {w W0 : World} {b : Nat} (hb : b < w.heap.size) (h1 : w.heap.size < W0.heap.size) (h2 : W0.cell? ⟨w.heap.size, 0, none⟩ = some (.slice none 0 0)) : Safe w.heap.size W0 b := by
  have e : rb w.heap.size W0 = w.heap.size := by unfold rb; rw [h2]
  exact ⟨by omega, by omega, by omega⟩
theorem RdBox.start {w W0 : World} {b : Nat} {v : Value} (hc : w.cell? ⟨b, 0, none⟩ = some v) (hW : Below w.heap.size w W0) (h1 : w.heap.size < W0.heap.size) (h2 : W0.cell? ⟨w.heap.size, 0, none⟩ = some (.slice none 0 0)) : RdBox w.heap.size W0 b v :=
  have hb := World.block_lt_of_cell? _ ⟨b, 0, none⟩ hc
  ⟨(hW.cell (p := ⟨b, 0, none⟩) hb).trans hc, Safe.start hb h1 h2⟩
theorem Rd.starts {w W0 : World} {p : Option Addr} {B : Nat} {zs : List Sp} (hz : SpAt w B p zs) (hW : Below w.heap.size w W0) (h1 : w.heap.size < W0.heap.size) (h2 : W0.cell? ⟨w.heap.size, 0, none⟩ = some (.slice none 0 0)) : Rd w.heap.size W0 p zs := by
  refine ⟨(hz.below hW).mono (Nat.zero_le _), fun hne a ha => ?_, h1⟩
  obtain ⟨b, off, e, _, h4, _⟩ := hz.at' hne
  rw [ha] at e
  obtain rfl := Option.some.inj e
  exact Safe.start h4 h1 h2

theorem ResO.of_lim {w : World} {L : List Sp} (hb : ∀ s ∈ L, FitSp s) (hl : L.length ≤ 1000000) {e : Ending} {w' : World}
    (h : ∃ v, e = .returned (.tuple #[v, .int .i64 (limE L)]) ∧ Own w' w.heap.size v (limS L) ∧ Below w.heap.size w w') : ResO w (limS L) (limE L) e w' := by
  obtain ⟨v, he, hown, hbel⟩ := h
  refine ⟨v, he, hown, fun s hs => ?_, ?_, hbel⟩
  · unfold limS at hs; split at hs
    · cases hs
    · exact hb s hs
  · unfold limS; split
    · simp
    · omega

theorem collectCommon (Ba Bb : Nat) (p q : Option Addr) (cap cap' : Nat) (a b : List Sp) (w : World) (B B' : Nat) (hca : w.cell? ⟨Ba, 0, none⟩ = some (.slice p a.length cap)) (hcb : w.cell? ⟨Bb, 0, none⟩ = some (.slice q b.length cap'))
    (ha : SpAt w B p a) (hb : SpAt w B' q b) (hla : a.length ≤ 4096) (hlb : b.length ≤ 4096) (hba : ∀ x ∈ a, Bd x) (hbb : ∀ x ∈ b, Bd x) (hf : ∀ x ∈ comL a b, FitSp x) :
    Calls Try.prog 33 #[.func (.func 53) #[] #[.pointer (some ⟨Ba, 0, none⟩), .pointer (some ⟨Bb, 0, none⟩)]] w (ResO w (limS (comL a b)) (limE (comL a b))) := by
  have hlen := comL_len a b
  have h := collect_any 53 #[.pointer (some ⟨Ba, 0, none⟩), .pointer (some ⟨Bb, 0, none⟩)] eg53 (comL a b) hf (by omega) w (fun W0 hW h1 h2 =>
    common_stops 8 (by omega) Ba Bb w.heap.size p q cap cap' a b hba hbb (by omega) (by omega) W0 (RdBox.start hca hW h1 h2) (RdBox.start hcb hW h1 h2) (Rd.starts ha hW h1 h2) (Rd.starts hb hW h1 h2))
  exact h.mono fun e w' hh => ResO.of_lim hf (by omega) hh

set_option maxHeartbeats 1000000 in
theorem meet_any (p q : Option Addr) (cap cap' : Nat) (a b : List Sp) (w : World) (B B' : Nat) (ha : SpAt w B p a) (hb : SpAt w B' q b) :
    Calls Try.prog 17 #[.slice p a.length cap, .slice q b.length cap'] w (ResO w (meetS a b) (meetE a b)) := by
  by_cases h : errLL a b = 0
  · obtain ⟨ea, eb⟩ := errLL_zero h
    have HS := Lib.hid (show meetS a b = limS (meetC a b) by unfold meetS; rw [if_pos h])
    have HE := Lib.hid (show meetE a b = limE (meetC a b) by unfold meetE; rw [if_pos h])
    have HM := Lib.hid (comL_meet (errL_pos ea) (errL_pos eb))
    have HF := Lib.hid (show ∀ x ∈ comL (canon a) (canon b), FitSp x by rw [HM.out]; exact fit_of_bd (meetC_ok a b (errL_bd ea) (errL_bd eb)).1)
    have HLA := Lib.hid (Nat.le_trans (canon_len a (errL_bd ea)) (errL_all ea).1)
    have HLB := Lib.hid (Nat.le_trans (canon_len b (errL_bd eb)) (errL_all eb).1)
    have HDA := Lib.hid (canon_bd a (errL_bd ea))
    have HDB := Lib.hid (canon_bd b (errL_bd eb))
    have HC := Lib.hid (tidy_ok p q cap cap' a b w B B' ha hb h)
    clear h ea eb ha hb
    go_enter Try.func17, Try.ntmps17
    go_wp2_with fail
    refine HC.out.mono ?_
    rintro e w1 ⟨p1, c1, p2, c2, rfl, hs1, hs2, hb1⟩
    have HB1 := Lib.hid hb1
    have HS1 := Lib.hid hs1
    have HS2 := Lib.hid hs2
    clear hb1 hs1 hs2
    go_wp2_with fail
    refine (commonF_any p1 p2 _ c1 _ c2 w1).mono ?_
    rintro e w3 ⟨rfl, rfl⟩
    have hb4 : Below w1.heap.size w1 ((w1.alloc (.cells #[.slice p1 (canon a).length c1] 24)).alloc (.cells #[.slice p2 (canon b).length c2] 24)) := ((Below.refl _ _).alloc (Nat.le_refl _) _).alloc (by simp) _
    have HCC := Lib.hid (collectCommon w1.heap.size (w1.heap.size + 1) p1 p2 c1 c2 (canon a) (canon b) _ _ _ (by simp) (by simp) (HS1.out.below hb4) (HS2.out.below hb4) HLA.out HLB.out HDA.out HDB.out HF.out)
    have HB4 := Lib.hid (HB1.out.trans (hb4.mono HB1.out.size))
    clear hb4
    go_wp2_with fail
    refine HCC.out.mono ?_
    rintro e w5 ⟨v5, rfl, hown5, hf5, hl5, hb5⟩
    have HO := Lib.hid hown5
    have HFF := Lib.hid hf5
    have HL5 := Lib.hid hl5
    have HB5 := Lib.hid (HB4.out.trans (hb5.mono HB4.out.size))
    clear hown5 hf5 hb5 hl5
    go_wp2_with fail
    go_ret2
    exact ⟨v5, by rw [HE.out, ← HM.out]; rfl, by rw [HS.out, ← HM.out]; exact HO.out.mono HB4.out.size, by rw [HS.out, ← HM.out]; exact HFF.out, by rw [HS.out, ← HM.out]; exact HL5.out, HB5.out⟩
  · have HS := Lib.hid (show meetS a b = [] by unfold meetS; rw [if_neg h])
    have HE := Lib.hid (show meetE a b = errLL a b by unfold meetE; rw [if_neg h])
    have HC := Lib.hid (tidy_bad p q cap cap' a b w B B' ha hb h)
    have h2 : (errLL a b != 0) = true := by simpa using h
    generalize hE : errLL a b = er at *
    clear hE h
    go_enter Try.func17, Try.ntmps17
    go_wp2_with fail
    refine HC.out.mono ?_
    rintro e w1 ⟨rfl, hb1⟩
    have HB := Lib.hid hb1
    clear hb1
    go_wp2_with fail
    go_ret2
    exact ⟨.slice none 0 0, by rw [HE.out]; rfl, by rw [HS.out]; exact Own.nil _ _, by rw [HS.out]; simp, by rw [HS.out]; simp, HB.out⟩
end Go.Proofs.Ytdennlekjndfkaa
