import Derived.Test.YtdennlekjndfkaaRefD
import Derived.BigRegion
import Derived.Deep.LoopGhost
namespace Go.Proofs.Ytdennlekjndfkaa
open Go.RowKit

theorem limE_yes {l : List Sp} (h : 4096 < l.length) : limE l = 2 ∧ limS l = [] := by unfold limE limS; rw [if_pos h, if_pos h]; exact ⟨rfl, rfl⟩
theorem limE_no {l : List Sp} (h : ¬ 4096 < l.length) : limE l = 0 ∧ limS l = l := by unfold limE limS; rw [if_neg h, if_neg h]; exact ⟨rfl, rfl⟩

set_option maxRecDepth 100000 in
set_option maxHeartbeats 1000000 in
theorem refUnion_any (p q : Option Addr) (cap cap' : Nat) (a b : List Sp) (w : World) (B B' : Nat) (ha : SpAt w B p a) (hb : SpAt w B' q b) (hpc : p = none → cap = 0) (hqc : q = none → cap' = 0) :
    Calls Try.prog 16 #[.slice p a.length cap, .slice q b.length cap'] w (Res w (unionS a b) (unionE a b)) := by
  by_cases h : errLL a b = 0
  · have HS := Lib.hid (show unionS a b = limS (canon (a ++ b)) by unfold unionS; rw [if_pos h])
    have HE := Lib.hid (show unionE a b = limE (canon (a ++ b)) by unfold unionE; rw [if_pos h])
    have HZ := Lib.hid h
    obtain ⟨ea, eb⟩ := errLL_zero h
    have la := (errL_all ea).1
    have lb := (errL_all eb).1
    have hbd := Lib.hid (show ∀ x ∈ a ++ b, Bd x from fun x hx => by rcases List.mem_append.1 hx with hx | hx; (exact errL_bd ea x hx); (exact errL_bd eb x hx))
    have hcl := canon_len _ hbd.out
    have hcb := Lib.hid (canon_bd _ hbd.out)
    rw [List.length_append] at hcl
    clear h ea eb
    go_enter Try.func16, Try.ntmps16
    go_wp2_with fail
    refine (both_any p q cap cap' a b _ B B' ha hb).mono ?_
    rw [HZ.out]
    rintro e w1 ⟨rfl, hb1⟩
    have HB := Lib.hid hb1
    have ha' := ha.below hb1
    have hw1 := hb1.size
    have hmade := Own.made w1 w.heap.size _ rfl hw1
    have ha2 := ha'.below ((Below.refl _ w1).alloc (Nat.le_refl _) (.cells #[] 23))
    clear hb1
    go_wp2_with (first
      | (at_builtin; refine wpList_appAll rfl _ _ rfl w.heap.size _ [] hmade rfl B p cap a ha2 hpc rfl (by simp; omega) (by simp; omega) ?_; intro v2 w2 hown2 hb2; have hb3 := hb.below ((HB.out.alloc hw1 _).trans hb2))
      | (at_builtin; refine wpList_appAll rfl _ _ rfl w.heap.size _ ([] ++ a) hown2 rfl B' q cap' b hb3 hqc rfl (by simp; omega) (Nat.le_trans (by simp; omega) hb2.size) ?_; intro v3 w3 hown3 hb4; have HB4 := Lib.hid ((HB.out.alloc hw1 (.cells #[] 23)).trans (hb2.trans hb4)); obtain ⟨r, rc, rfl, hsp, _⟩ := hown3.reads (fit_of_bd hbd.out) (by simp; omega); clear hown3 hb4 hb2 hb3 hown2 hmade))
    rw [List.nil_append] at hsp
    rw [show a.length + b.length = (a ++ b).length from List.length_append.symm]
    refine (refTidy_any r rc (a ++ b) _ _ hsp hbd.out (by simp; omega)).mono ?_
    rintro e w4 ⟨v, rfl, hown4, hb4⟩
    obtain ⟨u, uc, rfl, hsp4, _, hu, _⟩ := hown4.reads (fit_of_bd hcb.out) (by omega)
    have HB5 := Lib.hid (HB4.out.trans (hb4.mono HB4.out.size))
    have hsp5 := hsp4.mono HB4.out.size
    clear hown4 hb4 hsp hsp4
    by_cases hlong : 4096 < (canon (a ++ b)).length
    · have HL := Lib.hid (limE_yes hlong)
      go_wp2_with fail
      refine (limited_any u uc _ _ (by omega)).mono ?_
      rw [if_pos hlong, HL.out.1]
      rintro e w5 ⟨rfl, rfl⟩
      go_wp2_with fail
      go_ret2
      exact ⟨none, 0, by rw [HS.out, HE.out, HL.out.1, HL.out.2]; rfl, by rw [HS.out, HL.out.2]; exact SpAt.nil, fun _ => rfl, HB5.out⟩
    · have HL := Lib.hid (limE_no hlong)
      go_wp2_with fail
      refine (limited_any u uc _ _ (by omega)).mono ?_
      rw [if_neg hlong, HL.out.1]
      rintro e w5 ⟨rfl, rfl⟩
      go_wp2_with fail
      go_ret2
      exact ⟨u, uc, by rw [HS.out, HE.out, HL.out.1, HL.out.2]; rfl, by rw [HS.out, HL.out.2]; exact hsp5, hu, HB5.out⟩
  · have HS := Lib.hid (show unionS a b = [] by unfold unionS; rw [if_neg h])
    have HE := Lib.hid (show unionE a b = errLL a b by unfold unionE; rw [if_neg h])
    have h2 : (errLL a b != 0) = true := by simpa using h
    generalize hE : errLL a b = er at *
    have HER := Lib.hid hE; clear hE
    go_enter Try.func16, Try.ntmps16
    go_wp2_with fail
    refine (both_any p q cap cap' a b _ B B' ha hb).mono ?_
    rw [HER.out]
    rintro e w1 ⟨rfl, hb1⟩
    have HB := Lib.hid hb1
    clear hb1
    go_wp2_with fail
    go_ret2
    exact ⟨none, 0, by rw [HS.out, HE.out]; rfl, by rw [HS.out]; exact SpAt.nil, fun _ => rfl, HB.out⟩
end Go.Proofs.Ytdennlekjndfkaa
