/- Set. -/
import Derived.Test.YtdennlekjndfkaaJoined
import Derived.Test.YtdennlekjndfkaaCollectS
import Derived.Test.YtdennlekjndfkaaMath6
import Derived.Test.YtdennlekjndfkaaRefE
namespace Go.Proofs.Ytdennlekjndfkaa
open Go.RowKit Go.Sort Go.Lib

theorem sortS_asc (l : List Sp) : Asc (sortS l) := by
  have h := List.pairwise_mergeSort (le := fun x y : Sp => !ltSp y x) (by intro a b c h1 h2; simp [ltSp] at *; omega) (by intro a b; simp [ltSp]; omega) l
  refine h.imp ?_
  intro a b hab
  simp [ltSp] at hab
  omega
theorem joinS_canon (l : List Sp) (hp : Pos l) : joinS l = canon l := by
  have hp2 : Pos (ddS (sortS l)) := fun s hs => hp s ((sortS_perm l).mem_iff.1 ((ddS_mem _ _).1 hs))
  have ha : Asc (ddS (sortS l)) := ddS_pairwise _ _ (sortS_asc l)
  obtain ⟨h1, h2, _⟩ := mergeL_spec _ (ddS (sortS l)) (Nat.le_refl _) hp2 ha
  refine canon_eq hp h1 fun t => ?_
  rw [show joinS l = mergeL (ddS (sortS l)) from rfl, h2]
  unfold mem
  constructor
  · rintro ⟨s, hs, h3⟩; exact ⟨s, (sortS_perm l).mem_iff.1 ((ddS_mem _ _).1 hs), h3⟩
  · rintro ⟨s, hs, h3⟩; exact ⟨s, (ddS_mem _ _).2 ((sortS_perm l).mem_iff.2 hs), h3⟩
theorem errL_pos {l : List Sp} (h : errL l = 0) : Pos l := fun s hs => by
  have := (okSp_iff s).1 ((errL_all h).2 s hs); omega

theorem eg47 : ∀ args w, (callFunc 47 args).run Try.prog w = .ok (.enter 47 args) w := enters_of Try.func47 (by kernel_rfl) rfl

/-- What a function that returns a list of the call's own and an error has returned. -/
def ResO (w : World) (l : List Sp) (err : Int) (e : Ending) (w' : World) : Prop :=
  ∃ v, e = .returned (.tuple #[v, .int .i64 err]) ∧ Own w' w.heap.size v l ∧ (∀ s ∈ l, FitSp s) ∧ l.length ≤ 1000000 ∧ Below w.heap.size w w'
theorem ResO.res {w : World} {l : List Sp} {err : Int} {e : Ending} {w' : World} (h : ResO w l err e w') : Res w l err e w' := by
  obtain ⟨v, he, hown, hf, hl, hb⟩ := h
  obtain ⟨p, cap, rfl, hsp, _, hn, _⟩ := hown.reads hf (by omega)
  exact ⟨p, cap, he, hsp, hn, hb⟩

theorem rb_nil {n : Nat} {W : World} (h : W.cell? ⟨n, 0, none⟩ = some (.slice none 0 0)) (h1 : n < W.heap.size) : rb n W < W.heap.size := by
  have e : rb n W = n := by unfold rb; rw [h]
  omega

/-- collect(joined(l)): the two calls, one after the other, in a world w1. -/
theorem collectJoined (Bs : Nat) (p : Option Addr) (cap : Nat) (zs : List Sp) (w : World) (B : Nat) (hc : w.cell? ⟨Bs, 0, none⟩ = some (.slice p zs.length cap)) (hz : SpAt w B p zs) (hl : zs.length ≤ 1000000) (hb : ∀ x ∈ zs, Bd x) (hp : Pos zs) :
    Calls Try.prog 33 #[.func (.func 47) #[] #[.pointer (some ⟨Bs, 0, none⟩)]] w (ResO w (limS (canon zs)) (limE (canon zs))) := by
  have hcb := canon_bd zs hb
  have hcl := canon_len zs hb
  have h := collect_any 47 #[.pointer (some ⟨Bs, 0, none⟩)] eg47 (joinS zs) (by rw [joinS_canon zs hp]; exact fit_of_bd hcb) (by rw [joinS_canon zs hp]; omega) w (fun W0 hW h1 h2 =>
    joined_stops 8 (by omega) Bs w.heap.size B p cap zs W0 ((hW.cell (p := ⟨Bs, 0, none⟩) (World.block_lt_of_cell? _ ⟨Bs, 0, none⟩ hc)).trans hc) (hz.below hW) hl hb h1 (rb_nil h2 h1))
  rw [joinS_canon zs hp] at h
  refine h.mono ?_
  rintro e w' ⟨v, he, hown, hbel⟩
  refine ⟨v, he, hown, fun s hs => ?_, ?_, hbel⟩
  · unfold limS at hs; split at hs
    · cases hs
    · exact (hcb s hs).fit
  · unfold limS; split
    · simp
    · omega

set_option maxHeartbeats 1000000 in
theorem set_any (p : Option Addr) (cap : Nat) (l : List Sp) (w : World) (B : Nat) (hl : SpAt w B p l) :
    Calls Try.prog 13 #[.slice p l.length cap] w (ResO w (setS l) (errL l)) := by
  by_cases h : errL l = 0
  · have hlen := (errL_all h).1
    have HBd := Lib.hid (errL_bd h)
    have HPo := Lib.hid (errL_pos h)
    have hcl := canon_len l HBd.out
    have HL := Lib.hid (limE_no (show ¬ 4096 < (canon l).length by omega))
    have HS := Lib.hid (show setS l = canon l by unfold setS; rw [if_pos h])
    have HE := Lib.hid h
    clear h
    go_enter Try.func13, Try.ntmps13
    go_wp2_with fail
    refine (checkList_any p cap l _ B hl).mono ?_
    rw [HE.out]
    rintro e w1 ⟨rfl, hb1⟩
    have HB := Lib.hid hb1
    have HL1 := Lib.hid (hl.below hb1)
    clear hb1 hl
    go_wp2_with fail
    refine (joinedF_any p l.length cap w1).mono ?_
    rintro e w2 ⟨rfl, rfl⟩
    have hb2 : Below w1.heap.size w1 (w1.alloc (.cells #[.slice p l.length cap] 24)) := (Below.refl _ _).alloc (Nat.le_refl _) _
    have HC := Lib.hid (collectJoined w1.heap.size p cap l _ B (by simp) (HL1.out.below hb2) (by omega) HBd.out HPo.out)
    have HB2 := Lib.hid (HB.out.trans (hb2.mono HB.out.size))
    clear hb2
    go_wp2_with fail
    refine HC.out.mono ?_
    rw [HL.out.1, HL.out.2]
    rintro e w3 ⟨v, rfl, hown, hf, hl3, hb3⟩
    have HO := Lib.hid hown
    have HFF := Lib.hid hf
    have HB3 := Lib.hid (HB2.out.trans (hb3.mono HB2.out.size))
    clear hown hf hb3
    go_wp2_with fail
    go_ret2
    exact ⟨v, by rw [HE.out]; rfl, by rw [HS.out]; exact HO.out.mono HB2.out.size, by rw [HS.out]; exact HFF.out, by rw [HS.out]; exact hl3, HB3.out⟩
  · have HS := Lib.hid (show setS l = [] by unfold setS; rw [if_neg h])
    have h2 : (errL l != 0) = true := by simpa using h
    generalize hE : errL l = er at *
    have HE := Lib.hid hE; clear hE
    go_enter Try.func13, Try.ntmps13
    go_wp2_with fail
    refine (checkList_any p cap l _ B hl).mono ?_
    rw [HE.out]
    rintro e w1 ⟨rfl, hb1⟩
    have HB := Lib.hid hb1
    clear hb1
    go_wp2_with fail
    go_ret2
    exact ⟨.slice none 0 0, rfl, by rw [HS.out]; exact Own.nil _ _, by rw [HS.out]; simp, by rw [HS.out]; simp, HB.out⟩
end Go.Proofs.Ytdennlekjndfkaa
