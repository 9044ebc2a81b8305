/- Union. -/
import Derived.Test.YtdennlekjndfkaaSet
import Derived.Test.YtdennlekjndfkaaConcat
namespace Go.Proofs.Ytdennlekjndfkaa
open Go.RowKit Go.Sort Go.Lib

theorem Pos.append {a b : List Sp} (ha : Pos a) (hb : Pos b) : Pos (a ++ b) := fun s hs => by
  rcases List.mem_append.1 hs with h | h
  · exact ha s h
  · exact hb s h

set_option maxRecDepth 100000 in
set_option maxHeartbeats 1000000 in
theorem union_any (p q : Option Addr) (cap cap' : Nat) (a b : List Sp) (w : World) (B B' : Nat) (ha : SpAt w B p a) (hb : SpAt w B' q b) (hpc : p = none → cap = 0) (hqc : q = none → cap' = 0) :
    Calls Try.prog 15 #[.slice p a.length cap, .slice q b.length cap'] w (ResO w (unionS a b) (unionE a b)) := by
  by_cases h : errLL a b = 0
  · have HS := Lib.hid (show unionS a b = limS (canon (a ++ b)) by unfold unionS; rw [if_pos h])
    have HE := Lib.hid (show unionE a b = limE (canon (a ++ b)) by unfold unionE; rw [if_pos h])
    have HZ := Lib.hid h
    obtain ⟨ea, eb⟩ := errLL_zero h
    have la := (errL_all ea).1
    have lb := (errL_all eb).1
    have HBd := Lib.hid (show ∀ x ∈ a ++ b, Bd x from fun x hx => by rcases List.mem_append.1 hx with hx | hx; (exact errL_bd ea x hx); (exact errL_bd eb x hx))
    have HPo := Lib.hid (Pos.append (errL_pos ea) (errL_pos eb))
    have HA := Lib.hid ha
    have HBB := Lib.hid hb
    clear h ea eb ha hb
    go_enter Try.func15, Try.ntmps15
    go_wp2_with fail
    refine (checkLists_any p q cap cap' a b _ B B' HA.out HBB.out).mono ?_
    rw [HZ.out]
    rintro e w1 ⟨rfl, hb1⟩
    have HB := Lib.hid hb1
    have hz1 := hb1.size
    clear hb1
    go_wp2_with fail
    have hb2 : Below w1.heap.size w1 (w1.alloc (.cells #[.slice p a.length cap, .slice q b.length cap'] 24)) := (Below.refl _ _).alloc (Nat.le_refl _) _
    refine (concat_any p q cap cap' w1.heap.size a b _ B B' ((HA.out.below HB.out).below hb2) ((HBB.out.below HB.out).below hb2) hpc hqc la lb (by simp) (by simp)).mono ?_
    rintro e w2 ⟨v, rfl, hown, hb3⟩
    have HB3 := Lib.hid ((HB.out.trans (hb2.mono HB.out.size)).trans (hb3.mono (by simp; omega)))
    obtain ⟨r, rc, rfl, hsp, _⟩ := hown.reads (fit_of_bd HBd.out) (by simp; omega)
    have HSP := Lib.hid hsp
    clear hb2 hb3 hown hsp
    go_wp2_with fail
    refine (joinedF_any r _ rc w2).mono ?_
    rintro e w3 ⟨rfl, rfl⟩
    have hb4 : Below w2.heap.size w2 (w2.alloc (.cells #[.slice r (a ++ b).length rc] 24)) := (Below.refl _ _).alloc (Nat.le_refl _) _
    have HC := Lib.hid (collectJoined w2.heap.size r rc (a ++ b) _ _ (by simp) (HSP.out.below hb4) (by simp; omega) HBd.out HPo.out)
    have HB4 := Lib.hid (HB3.out.trans (hb4.mono HB3.out.size))
    clear hb4
    rw [List.length_append] at HC HB4 
    go_wp2_with fail
    refine HC.out.mono ?_
    rintro e w5 ⟨v5, rfl, hown5, hf5, hl5, hb5⟩
    have HO := Lib.hid hown5
    have HFF := Lib.hid hf5
    have HB5 := Lib.hid (HB4.out.trans (hb5.mono HB4.out.size))
    clear hown5 hf5 hb5
    go_wp2_with fail
    go_ret2
    exact ⟨v5, by rw [HE.out]; rfl, by rw [HS.out]; exact HO.out.mono HB4.out.size, by rw [HS.out]; exact HFF.out, by rw [HS.out]; exact hl5, HB5.out⟩
  · have HS := Lib.hid (show unionS a b = [] by unfold unionS; rw [if_neg h])
    have HE := Lib.hid (show unionE a b = errLL a b by unfold unionE; rw [if_neg h])
    have h2 : (errLL a b != 0) = true := by simpa using h
    generalize hE : errLL a b = er at *
    have HER := Lib.hid hE; clear hE
    go_enter Try.func15, Try.ntmps15
    go_wp2_with fail
    refine (checkLists_any p q cap cap' a b _ B B' ha hb).mono ?_
    rw [HER.out]
    rintro e w1 ⟨rfl, hb1⟩
    have HB := Lib.hid hb1
    clear hb1
    go_wp2_with fail
    go_ret2
    exact ⟨.slice none 0 0, by rw [HE.out]; rfl, by rw [HS.out]; exact Own.nil _ _, by rw [HS.out]; simp, by rw [HS.out]; simp, HB.out⟩
end Go.Proofs.Ytdennlekjndfkaa
