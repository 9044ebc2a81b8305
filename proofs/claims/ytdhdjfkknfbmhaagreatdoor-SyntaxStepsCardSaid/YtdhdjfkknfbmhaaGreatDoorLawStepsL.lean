/- SyntaxSteps: the law returns true for every list of steps, as the row states it (the listed variables as the program lays them). -/
import Derived.Test.YtdhdjfkknfbmhaaGreatDoorSCTextL
import Derived.Test.YtdhdjfkknfbmhaaGreatDoorSSaneL
import Derived.Test.YtdhdjfkknfbmhaaGreatDoorSReadS
import Derived.BigQuiet
import Derived.Laws.IdiomStrings
import Derived.Test.YtdhdjfkknfbmhaaGreatDoorKGlob
import Derived.Test.YtdhdjfkknfbmhaaGreatDoorRows
import Derived.Lib.LaidU8
import Derived.Lib.LaidTab
import Derived.Stop.LaidErr
import Derived.ProofKit
import Derived.Shelf.Vars
import Derived.Stop.Joined
import Derived.MakeChecks
import Derived.ChangeSame
import Derived.OpenShut
import Derived.SizedLaws
import Derived.Lib.RowBridge
import Derived.Test.YtdhdjfkknfbmhaaGreatDoorTie
import Derived.Test.YtdhdjfkknfbmhaaGreatDoorCards
import Derived.Deep.DeepHandedRow
import Derived.LaidMore
import Derived.LaidLaws
import Derived.Lay
import Derived.SevenTiedAt
import Derived.ShutString
import Derived.Deep.Light
namespace Go.Proofs.YtdhdjfkknfbmhaaGreatDoor
open Go.RowKit

/-- What stepsText comes to. -/
def SEnd (g : Nat) (ss : List St) (e : Ending) : Prop :=
  match stepsT g ss with
  | some s => e = .returned (.tuple #[.string (S s), .bool true])
  | none => e = .returned (.tuple #[.string ⟨#[]⟩, .bool false])
theorem SEnd.no {g : Nat} {ss : List St} (h : stepsT g ss = none) : SEnd g ss (.returned (.tuple #[.string ⟨#[]⟩, .bool false])) := by unfold SEnd; rw [h]
theorem SEnd.yes {g : Nat} {ss : List St} {s : Bs} (h : stepsT g ss = some s) : SEnd g ss (.returned (.tuple #[.string (S s), .bool true])) := by unfold SEnd; rw [h]

set_option maxHeartbeats 4000000 in
set_option maxRecDepth 100000 in
theorem stepsText_bad (g d : Nat) (hgd : g + d = 5) (ss : List St) (hl : ss.length ≤ 9223372036854775807) (hc : ss.length < 1 ∨ 12 < ss.length ∨ 4 < d) (w : World) (p : Option Addr) (cap : Nat) :
    Calls Tryz.prog 22 #[.slice p ss.length cap, .int .i64 d] w fun e w' => SEnd g ss e ∧ Below w.heap.size w w' := by
  have HB0 := Lib.hid ((Below.refl w.heap.size w).alloc (Nat.le_refl _) (.cells #[.string ⟨#[]⟩, .string ⟨#[111, 108, 100, 101, 114]⟩, .string ⟨#[121, 111, 117, 110, 103, 101, 114]⟩, .string ⟨#[119, 97, 118, 101]⟩, .string ⟨#[98, 105, 98]⟩, .string ⟨#[100, 114, 97, 119]⟩] 9))
  have HE : Hid (SEnd g ss (.returned (.tuple #[.string ⟨#[]⟩, .bool false]))) := Lib.hid (SEnd.no (by
    cases g with
    | zero => rfl
    | succ g => unfold stepsT; rw [if_neg (by omega)]))
  generalize SEnd g ss = SE at *
  generalize ss.length = sl at *
  by_cases h1 : sl < 1
  · have e1 : (sl : Int) < 1 := by omega
    clear hc h1 hgd
    go_enter Tryz.func22, Tryz.ntmps22
    go_wp2_with fail
    go_ret2
    exact ⟨HE.out, HB0.out⟩
  · by_cases h2 : 12 < sl
    · have e1 : ¬ (sl : Int) < 1 := by omega
      have e2 : 12 < (sl : Int) := by omega
      clear hc h1 h2 hgd
      go_enter Tryz.func22, Tryz.ntmps22
      go_wp2_with fail
      go_ret2
      exact ⟨HE.out, HB0.out⟩
    · have e1 : ¬ (sl : Int) < 1 := by omega
      have e2 : ¬ 12 < (sl : Int) := by omega
      have e3 : 4 < (d : Int) := by omega
      clear hc h1 h2 hgd
      go_enter Tryz.func22, Tryz.ntmps22
      go_wp2_with fail
      go_ret2
      exact ⟨HE.out, HB0.out⟩

theorem stepT_by {rec : List St → Option Bs} {b : Int} {c : Cd} {th el : List St} (h1 : 1 ≤ b) (h5 : b ≤ 5) (hz : c.isZero = true) (ht : th.length = 0) (he : el.length = 0) : stepT rec (.mk 1 b c th el) = some (byN b ++ [59, 10]) := by
  unfold stepT; dsimp only; rw [if_pos rfl, if_pos ⟨h1, h5, hz, ht, he⟩]; rfl
theorem stepT_noby {rec : List St → Option Bs} {b : Int} {c : Cd} {th el : List St} (h : ¬ (1 ≤ b ∧ b ≤ 5 ∧ c.isZero = true ∧ th.length = 0 ∧ el.length = 0)) : stepT rec (.mk 1 b c th el) = none := by
  unfold stepT; dsimp only; rw [if_pos rfl, if_neg h]
theorem stepT_no2 {rec : List St → Option Bs} {k b : Int} {c : Cd} {th el : List St} (h1 : k ≠ 1) (h : ¬ (k = 2 ∧ b = 0)) : stepT rec (.mk k b c th el) = none := by
  unfold stepT; dsimp only; rw [if_neg h1, if_neg h]
theorem stepT_noc {rec : List St → Option Bs} {c : Cd} {th el : List St} (h : condT 8 c = none) : stepT rec (.mk 2 0 c th el) = none := by
  unfold stepT; dsimp only; rw [if_neg (by decide), if_pos ⟨rfl, rfl⟩, h]
theorem stepT_noa {rec : List St → Option Bs} {c : Cd} {th el : List St} (h : rec th = none) : stepT rec (.mk 2 0 c th el) = none := by
  unfold stepT; dsimp only; rw [if_neg (by decide), if_pos ⟨rfl, rfl⟩, h]; cases condT 8 c <;> rfl
theorem stepT_if {rec : List St → Option Bs} {c : Cd} {th el : List St} {s a : Bs} (hc : condT 8 c = some s) (ha : rec th = some a) (he : el.length = 0) : stepT rec (.mk 2 0 c th el) = some ([105, 102, 32] ++ s ++ [32, 123] ++ a ++ [125]) := by
  unfold stepT; dsimp only; rw [if_neg (by decide), if_pos ⟨rfl, rfl⟩, hc, ha]; dsimp only; rw [if_pos he]
  simp [wIf, bracesB]
theorem stepT_else {rec : List St → Option Bs} {c : Cd} {th el : List St} {s a e : Bs} (hc : condT 8 c = some s) (ha : rec th = some a) (he : ¬ el.length = 0) (hr : rec el = some e) : stepT rec (.mk 2 0 c th el) = some (([105, 102, 32] ++ s ++ [32, 123] ++ a ++ [125]) ++ ([32, 101, 108, 115, 101, 32, 123] ++ e ++ [125])) := by
  unfold stepT; dsimp only; rw [if_neg (by decide), if_pos ⟨rfl, rfl⟩, hc, ha]; dsimp only; rw [if_neg he, hr]
  simp [wIf, wElse, bracesB]
theorem stepT_noe {rec : List St → Option Bs} {c : Cd} {th el : List St} (he : ¬ el.length = 0) (hr : rec el = none) : stepT rec (.mk 2 0 c th el) = none := by
  unfold stepT; dsimp only; rw [if_neg (by decide), if_pos ⟨rfl, rfl⟩, hr]
  cases condT 8 c with
  | none => rfl
  | some s =>
    cases rec th with
    | none => rfl
    | some a => dsimp only; rw [if_neg he]; rfl
theorem txBy {T n : Bs} {x : ByteArray} (hx : x = S [59, 10]) : S T ++ (S n ++ x) = S (T ++ (n ++ [59, 10])) := by subst hx; simp only [S_append]
theorem txIf {T s a : Bs} {x y z : ByteArray} (hx : x = S [105, 102, 32]) (hy : y = S [32, 123]) (hz : z = S [125]) : S T ++ (x ++ S s ++ y ++ S a ++ z) = S (T ++ ([105, 102, 32] ++ s ++ [32, 123] ++ a ++ [125])) := by subst hx; subst hy; subst hz; simp only [S_append]
theorem txElse {T s a e : Bs} {x y z u : ByteArray} (hx : x = S [105, 102, 32]) (hy : y = S [32, 123]) (hz : z = S [125]) (hu : u = S [32, 101, 108, 115, 101, 32, 123]) : S T ++ (x ++ S s ++ y ++ S a ++ z) ++ (u ++ S e ++ z) = S (T ++ (([105, 102, 32] ++ s ++ [32, 123] ++ a ++ [125]) ++ ([32, 101, 108, 115, 101, 32, 123] ++ e ++ [125]))) := by
  subst hx; subst hy; subst hz; subst hu; simp only [S_append, List.append_assoc]
def namesS : List Value := [.string ⟨#[]⟩, .string ⟨#[111, 108, 100, 101, 114]⟩, .string ⟨#[121, 111, 117, 110, 103, 101, 114]⟩, .string ⟨#[119, 97, 118, 101]⟩, .string ⟨#[98, 105, 98]⟩, .string ⟨#[100, 114, 97, 119]⟩]
theorem namesS_at (m : Nat) (h1 : 1 ≤ m) (h5 : m ≤ 5) : namesS[m]? = some (.string (S (byN m))) := by
  obtain rfl | rfl | rfl | rfl | rfl : m = 1 ∨ m = 2 ∨ m = 3 ∨ m = 4 ∨ m = 5 := by omega
  all_goals rfl
set_option maxHeartbeats 8000000 in
set_option maxRecDepth 100000 in
theorem stepsText_main (g d : Nat) (hd : d ≤ 4) (hg : g ≤ 4) (ss : List St) (hs1 : 1 ≤ ss.length) (hs12 : ss.length ≤ 12) (w : World) (hG : Gl w) (p : Option Addr) (cap : Nat) (Q : Nat → Prop) (h : SsIn w Q ss p cap)
    (ih : ∀ ss wx px cx, Gl wx → SsIn wx Q ss px cx → Calls Tryz.prog 22 #[.slice px ss.length cx, .int .i64 ((d : Int) + 1)] wx fun e w' => SEnd g ss e ∧ Below wx.heap.size wx w') :
    Calls Tryz.prog 22 #[.slice p ss.length cap, .int .i64 d] w fun e w' => SEnd (g + 1) ss e ∧ Below w.heap.size w w' := by
  have hdi : ¬ 4 < (d : Int) := by omega
  have hb0 := (Below.refl w.heap.size w).alloc (Nat.le_refl _) (.cells namesS.toArray 9)
  have HK0 := Lib.hid (And.intro hb0 (Cells.new w namesS 9 (fun o => by simp [go_sem])))
  cases h with
  | mk _ _ _ b off X hl hc hc2 hp hb hcell hcd hth hel =>
  have HX : Hid (∀ j (hj : j < ss.length) wr, Below w.heap.size w wr → p = some ⟨b, off, none⟩ ∧ ∀ o u, (cellsS ss[j] (X j))[o]? = some u → wr.cell? ⟨b, off + j * 8 + o, none⟩ = some u) := Lib.hid fun j hj wr hr => by
    have hne : ss ≠ [] := by rintro rfl; simp at hj
    obtain ⟨e1, _, l1⟩ := hb hne
    exact ⟨e1, fun o u hu => (hr.cell (p := ⟨b, _, none⟩) l1).trans (hcell j hj o u hu)⟩
  have HIc : Hid (∀ j (hj : j < ss.length) wr, Below w.heap.size w wr → Calls Tryz.prog 39 #[cV ss[j].c (X j).pc (X j).cc, .int .i64 0] wr fun e w' => CEnd 8 ss[j].c e ∧ Below wr.heap.size wr w') := Lib.hid fun j hj wr hr =>
    condText_any Q 8 0 rfl ss[j].c wr _ _ (hG.bel' hr) ((hcd j hj).bel hr)
  have HIt : Hid (∀ j (hj : j < ss.length) wr, Below w.heap.size w wr → Calls Tryz.prog 22 #[.slice (X j).pt ss[j].th.length (X j).ct, .int .i64 ((d : Int) + 1)] wr fun e w' => SEnd g ss[j].th e ∧ Below wr.heap.size wr w') := Lib.hid fun j hj wr hr =>
    ih ss[j].th wr _ _ (hG.bel' hr) ((hth j hj).bel hr)
  have HIe : Hid (∀ j (hj : j < ss.length) wr, Below w.heap.size w wr → Calls Tryz.prog 22 #[.slice (X j).pe ss[j].el.length (X j).ce, .int .i64 ((d : Int) + 1)] wr fun e w' => SEnd g ss[j].el e ∧ Below wr.heap.size wr w') := Lib.hid fun j hj wr hr =>
    ih ss[j].el wr _ _ (hG.bel' hr) ((hel j hj).bel hr)
  have HD : Hid (∀ T, JS g ss ss.length T → SEnd (g + 1) ss (.returned (.tuple #[.string (S T), .bool true]))) := Lib.hid fun T hT => SEnd.yes (hT.done hs1 hs12)
  have HN : Hid (∀ j (hj : j < ss.length), stepT (stepsT g) ss[j] = none → SEnd (g + 1) ss (.returned (.tuple #[.string ⟨#[]⟩, .bool false]))) := Lib.hid fun j hj hs => SEnd.no (JS.no hj hs)
  have HST : Hid (∀ j (hj : j < ss.length) T s, JS g ss j T → stepT (stepsT g) ss[j] = some s → JS g ss (j + 1) (T ++ s)) := Lib.hid fun j hj T s hT hs => hT.step hj hs
  have HLC : Hid (∀ c s, condT 8 c = some s → (S s).size ≤ 45812984480) := Lib.hid fun c s hs => by rw [S_size]; exact condT_len 8 c s hs
  have HLT : Hid (∀ ss s, stepsT g ss = some s → (S s).size ≤ 190326012604158120) := Lib.hid fun ss s hs => by rw [S_size]; exact Nat.le_trans (stepsT_len g ss s hs) (bT_le g (by omega))
  have HLJ : Hid (∀ j T, j ≤ 12 → JS g ss j T → (S T).size ≤ 190326012604158120) := Lib.hid fun j T hj hT => by rw [S_size]; exact Nat.le_trans (hT.len hj) (bT_le (g + 1) (by omega))
  have HSL : Hid (∀ j (hj : j < ss.length), ss[j].th.length ≤ 3000000000000 ∧ ss[j].el.length ≤ 3000000000000 ∧ ss[j].c.ps.length ≤ 3000000000000) := Lib.hid fun j hj => by
    have a1 := hth j hj
    have a2 := hel j hj
    have a3 := hcd j hj
    refine ⟨by cases a1; assumption, by cases a2; assumption, ?_⟩
    generalize ss[j].c = c at a3 ⊢
    cases a3; assumption
  generalize SEnd (g + 1) ss = SE at *
  have hlt1 : ¬ (ss.length : Int) < 1 := by omega
  have hgt12 : ¬ 12 < (ss.length : Int) := by omega
  clear ih hcell hcd hth hel hb hG hb0
  go_enter Tryz.func22, Tryz.ntmps22
  go_wp2_with fail
  go_loopw [6, 31] (fun t i wr => ∃ (j : Nat) (T : Bs), j ≤ ss.length ∧ i = .int .i64 j ∧ t = .string (S T) ∧ Hid (JS g ss j T) ∧ Hid (Below w.heap.size w wr ∧ Cells wr w.heap.size namesS)) (fun _ i _ => ss.length - (intOf i).toNat)
  case atStart => exact ⟨0, [], Nat.zero_le _, rfl, rfl, Lib.hid (JS.zero _ _), HK0⟩
  case round =>
    obtain ⟨j, T, hj, rfl, rfl, HJ, HK⟩ := hrel
    clear HK0
    have hTz := HLJ.out j T (by omega) HJ.out
    by_cases hlt : j < ss.length
    · obtain ⟨rfl, HY⟩ := HX.out j hlt _ HK.out.1
      have y0 : wr.cell? ⟨b, off + j * 8, none⟩ = some (.int .i64 ss[j].k) := HY 0 _ rfl
      have y1 : wr.cell? ⟨b, off + j * 8 + 1, none⟩ = some (.int .i64 ss[j].b) := HY 1 _ rfl
      have y2 : wr.cell? ⟨b, off + j * 8 + 2, none⟩ = some (.int .i64 ss[j].c.k) := HY 2 _ rfl
      have y3 : wr.cell? ⟨b, off + j * 8 + 2 + 1, none⟩ = some (.int .i64 ss[j].c.v) := HY 3 _ rfl
      have y4 : wr.cell? ⟨b, off + j * 8 + 2 + 2, none⟩ = some (.int .i64 ss[j].c.n) := HY 4 _ rfl
      have y5 : wr.cell? ⟨b, off + j * 8 + 2 + 3, none⟩ = some (.slice (X j).pc ss[j].c.ps.length (X j).cc) := HY 5 _ rfl
      have y6 : wr.cell? ⟨b, off + j * 8 + 6, none⟩ = some (.slice (X j).pt ss[j].th.length (X j).ct) := HY 6 _ rfl
      have y7 : wr.cell? ⟨b, off + j * 8 + 7, none⟩ = some (.slice (X j).pe ss[j].el.length (X j).ce) := HY 7 _ rfl
      have HIc1 : Hid (∀ wd, Below wr.heap.size wr wd → Calls Tryz.prog 39 #[cV ss[j].c (X j).pc (X j).cc, .int .i64 0] wd fun e w' => CEnd 8 ss[j].c e ∧ Below wd.heap.size wd w') := Lib.hid fun wd hd =>
        HIc.out j hlt wd (HK.out.1.trans (hd.mono HK.out.1.size))
      have HIt1 : Hid (∀ wd, Below wr.heap.size wr wd → Calls Tryz.prog 22 #[.slice (X j).pt ss[j].th.length (X j).ct, .int .i64 ((d : Int) + 1)] wd fun e w' => SEnd g ss[j].th e ∧ Below wd.heap.size wd w') := Lib.hid fun wd hd =>
        HIt.out j hlt wd (HK.out.1.trans (hd.mono HK.out.1.size))
      have HIe1 : Hid (∀ wd, Below wr.heap.size wr wd → Calls Tryz.prog 22 #[.slice (X j).pe ss[j].el.length (X j).ce, .int .i64 ((d : Int) + 1)] wd fun e w' => SEnd g ss[j].el e ∧ Below wd.heap.size wd w') := Lib.hid fun wd hd =>
        HIe.out j hlt wd (HK.out.1.trans (hd.mono HK.out.1.size))
      have HN1 := Lib.hid (HN.out j hlt)
      have HST1 := Lib.hid (HST.out j hlt T)
      have HJ0 := HJ
      obtain ⟨hsl1, hsl2, hsl3⟩ := HSL.out j hlt
      unfold cV at HIc1
      have wj1 : (j : Int) < (ss.length : Int) := by omega
      clear HIc HIt HIe HX HY HN HST HSL HD HLJ HJ
      generalize X j = x at *
      obtain ⟨pc, cc, pt, ct, pe, ce⟩ := x
      generalize ss[j] = st at *
      obtain ⟨k, b', c, th, el⟩ := st
      simp only [St.k, St.b, St.c, St.th, St.el] at *
      have h1 := Cells.new wr [.int .i64 k, .int .i64 b', .int .i64 c.k, .int .i64 c.v, .int .i64 c.n, .slice pc c.ps.length cc, .slice pt th.length ct, .slice pe el.length ce] 73 (fun o => by simp [go_sem])
      go_upto_region 8 with (fail)
      obtain ⟨V, hV⟩ : ∃ V, wr.alloc (.cells #[.int .i64 k, .int .i64 b', .int .i64 c.k, .int .i64 c.v, .int .i64 c.n, .slice pc c.ps.length cc, .slice pt th.length ct, .slice pe el.length ce] 73) = V := ⟨_, rfl⟩
      rw [hV]
      have HV : Hid (Below wr.heap.size wr V ∧ Cells V wr.heap.size [.int .i64 k, .int .i64 b', .int .i64 c.k, .int .i64 c.v, .int .i64 c.n, .slice pc c.ps.length cc, .slice pt th.length ct, .slice pe el.length ce]) := Lib.hid (by rw [← hV]; exact ⟨(Below.refl _ _).alloc (Nat.le_refl _) _, h1⟩)
      clear hV h1 y0 y1 y2 y3 y4 y5 y6 y7
      have z0 : V.cell? ⟨wr.heap.size, 0, none⟩ = some (.int .i64 k) := HV.out.2.c 0 _ rfl
      have z1 : V.cell? ⟨wr.heap.size, 1, none⟩ = some (.int .i64 b') := HV.out.2.c 1 _ rfl
      have z2 : V.cell? ⟨wr.heap.size, 2, none⟩ = some (.int .i64 c.k) := HV.out.2.c 2 _ rfl
      have z3 : V.cell? ⟨wr.heap.size, 3, none⟩ = some (.int .i64 c.v) := HV.out.2.c 3 _ rfl
      have z4 : V.cell? ⟨wr.heap.size, 4, none⟩ = some (.int .i64 c.n) := HV.out.2.c 4 _ rfl
      have z5 : V.cell? ⟨wr.heap.size, 5, none⟩ = some (.slice pc c.ps.length cc) := HV.out.2.c 5 _ rfl
      by_cases hk1 : k = 1
      · subst hk1
        clear HIc1 HIt1 HIe1
        by_cases hb1 : 1 ≤ b'
        · by_cases hb5 : b' ≤ 5
          · obtain ⟨m, rfl⟩ := Int.eq_ofNat_of_zero_le (show 0 ≤ b' by omega)
            obtain ⟨z, hz⟩ : ∃ z, c.isZero = z := ⟨_, rfl⟩
            have HZ : Hid (Calls Tryz.prog 17 #[.agg #[.int .i64 c.k, .int .i64 c.v, .int .i64 c.n, .slice pc c.ps.length cc], .agg #[.int .i64 0, .int .i64 0, .int .i64 0, .slice none 0 0]] V fun e w' => e = .returned (.bool z) ∧ Below V.heap.size V w') := Lib.hid (by
              have hh := sameZero_any c.k c.v c.n c.ps.length (by omega) pc cc V
              have he : decide (c.k = 0 ∧ c.v = 0 ∧ c.n = 0 ∧ c.ps.length = 0) = z := by rw [← hz]; cases c; rfl
              rw [he] at hh; exact hh)
            have e1 : ¬ (m : Int) < 1 := by omega
            have e5 : ¬ 5 < (m : Int) := by omega
            cases z with
            | false =>
              have HE := Lib.hid (HN1.out (stepT_noby (by rw [hz]; simp)))
              clear HN1 HST1 hz HJ0 HLC HLT hb1 hb5
              generalize c.k = ck at *
              generalize c.v = cv at *
              generalize c.n = cn at *
              generalize c.ps.length = cl at *
              go_wp2_with fail
              go_at_call 17
              refine HZ.out.mono ?_
              rintro e w1 ⟨rfl, hbx⟩
              have HB1 := Lib.hid (HK.out.1.trans ((HV.out.1.trans (hbx.mono HV.out.1.size)).mono HK.out.1.size))
              clear hbx
              go_wp2_with fail
              go_ret2
              exact ⟨HE.out, HB1.out⟩
            | true =>
              by_cases h0 : th.length = 0 ∧ el.length = 0
              · have HJ1 := Lib.hid (HST1.out _ HJ0.out (stepT_by hb1 hb5 hz h0.1 h0.2))
                have HNM : Hid (∀ wd, Below wr.heap.size wr wd → wd.cell? ⟨w.heap.size, m, none⟩ = some (.string (S (byN m)))) := Lib.hid fun wd hd => (HK.out.2.bel hd).c m _ (namesS_at m (by omega) (by omega))
                have hnb : (S (byN m)).size ≤ 7 := by rw [S_size]; exact byN_len _
                have eth : (th.length : Int) = 0 := by omega
                have eel : (el.length : Int) = 0 := by omega
                have im : (m : Int) < 6 := by omega
                have q1 : ¬ 9223372036854775807 < (S (byN m)).size + 2 := by omega
                have q2 : ¬ 9223372036854775807 < (S T).size + ((S (byN m)).size + 2) := by omega
                clear HN1 HST1 hz HJ0 HLC HLT hb1 hb5
                generalize c.k = ck at *
                generalize c.v = cv at *
                generalize c.n = cn at *
                generalize c.ps.length = cl at *
                go_wp2_with fail
                go_at_call 17
                refine HZ.out.mono ?_
                rintro e w1 ⟨rfl, hbx⟩
                have hw1 := HV.out.1.trans (hbx.mono HV.out.1.size)
                have x1 : w1.cell? ⟨wr.heap.size, 1, none⟩ = some (.int .i64 m) := (HV.out.2.bel hbx).c 1 _ rfl
                have x6 : w1.cell? ⟨wr.heap.size, 6, none⟩ = some (.slice pt 0 ct) := by rw [(HV.out.2.bel hbx).c 6 _ rfl, h0.1]
                have x7 : w1.cell? ⟨wr.heap.size, 7, none⟩ = some (.slice pe 0 ce) := by rw [(HV.out.2.bel hbx).c 7 _ rfl, h0.2]
                have xm := HNM.out w1 hw1
                have HK1 := Lib.hid (And.intro (HK.out.1.trans (hw1.mono HK.out.1.size)) (HK.out.2.bel hw1))
                clear hbx hw1 h0 eth eel HZ
                go_wp2_with fail
                go_round
                case rel => exact ⟨j + 1, _, by omega, by go_num, congrArg Value.string (txBy rfl), HJ1, HK1⟩
                case measure => simp [intOf]; omega
              · have HE := Lib.hid (HN1.out (stepT_noby (fun hh => h0 ⟨hh.2.2.2.1, hh.2.2.2.2⟩)))
                have epos : 0 < (th.length : Int) + (el.length : Int) := by omega
                clear HN1 HST1 hz HJ0 HLC HLT hb1 hb5 h0
                generalize c.k = ck at *
                generalize c.v = cv at *
                generalize c.n = cn at *
                generalize c.ps.length = cl at *
                generalize th.length = tl at *
                generalize el.length = ell at *
                go_wp2_with fail
                go_at_call 17
                refine HZ.out.mono ?_
                rintro e w1 ⟨rfl, hbx⟩
                have HB1 := Lib.hid (HK.out.1.trans ((HV.out.1.trans (hbx.mono HV.out.1.size)).mono HK.out.1.size))
                have x6 : w1.cell? ⟨wr.heap.size, 6, none⟩ = some (.slice pt tl ct) := (HV.out.2.bel hbx).c 6 _ rfl
                have x7 : w1.cell? ⟨wr.heap.size, 7, none⟩ = some (.slice pe ell ce) := (HV.out.2.bel hbx).c 7 _ rfl
                clear hbx HZ
                go_wp2_with fail
                go_ret2
                exact ⟨HE.out, HB1.out⟩
          · have HE := Lib.hid (HN1.out (stepT_noby (by omega)))
            have HB1 := Lib.hid (HK.out.1.trans (HV.out.1.mono HK.out.1.size))
            have e1 : ¬ b' < 1 := by omega
            have e5 : 5 < b' := by omega
            clear HN1 HST1 HJ0 HLC HLT hb1 hb5
            go_wp2_with fail
            go_ret2
            exact ⟨HE.out, HB1.out⟩
        · have HE := Lib.hid (HN1.out (stepT_noby (by omega)))
          have HB1 := Lib.hid (HK.out.1.trans (HV.out.1.mono HK.out.1.size))
          have e1 : b' < 1 := by omega
          clear HN1 HST1 HJ0 HLC HLT hb1
          go_wp2_with fail
          go_ret2
          exact ⟨HE.out, HB1.out⟩
      · have HC : Hid (∀ wd, Below wr.heap.size wr wd → Calls Tryz.prog 39 #[.agg #[.int .i64 c.k, .int .i64 c.v, .int .i64 c.n, .slice pc c.ps.length cc], .int .i64 0] wd fun e w' => (∃ s okc, e = .returned (.tuple #[.string (S s), .bool okc]) ∧ Hid ((okc = true → condT 8 c = some s) ∧ (okc = false → condT 8 c = none))) ∧ Below wd.heap.size wd w') := Lib.hid fun wd hd =>
          (HIc1.out wd hd).mono fun e w' h => ⟨by
            have hh := h.1
            unfold CEnd at hh
            cases hs : condT 8 c with
            | some s => rw [hs] at hh; exact ⟨s, true, hh, Lib.hid ⟨fun _ => rfl, fun h => by cases h⟩⟩
            | none => rw [hs] at hh; obtain ⟨s, _, he⟩ := hh; exact ⟨s, false, he, Lib.hid ⟨fun h => (by cases h), fun _ => rfl⟩⟩, h.2⟩
        have HA : Hid (∀ wd, Below wr.heap.size wr wd → Calls Tryz.prog 22 #[.slice pt th.length ct, .int .i64 ((d : Int) + 1)] wd fun e w' => (∃ a oka, e = .returned (.tuple #[.string (S a), .bool oka]) ∧ Hid ((oka = true → stepsT g th = some a) ∧ (oka = false → stepsT g th = none))) ∧ Below wd.heap.size wd w') := Lib.hid fun wd hd =>
          (HIt1.out wd hd).mono fun e w' h => ⟨by
            have hh := h.1
            unfold SEnd at hh
            cases hs : stepsT g th with
            | some s => rw [hs] at hh; exact ⟨s, true, hh, Lib.hid ⟨fun _ => rfl, fun h => by cases h⟩⟩
            | none => rw [hs] at hh; exact ⟨[], false, hh, Lib.hid ⟨fun h => (by cases h), fun _ => rfl⟩⟩, h.2⟩
        have e1 : (k == 1) = false := by simpa using hk1
        have HV1 := HV
        clear HIc1 HIt1 HV
        have HN2 : Hid (¬ (k = 2 ∧ b' = 0) → SE (.returned (.tuple #[.string ⟨#[]⟩, .bool false]))) := Lib.hid fun hh => HN1.out (stepT_no2 hk1 hh)
        have HN3 : Hid (k = 2 → b' = 0 → condT 8 c = none → SE (.returned (.tuple #[.string ⟨#[]⟩, .bool false]))) := Lib.hid (by rintro rfl rfl hh; exact HN1.out (stepT_noc hh))
        have HN4 : Hid (k = 2 → b' = 0 → stepsT g th = none → SE (.returned (.tuple #[.string ⟨#[]⟩, .bool false]))) := Lib.hid (by rintro rfl rfl hh; exact HN1.out (stepT_noa hh))
        have HN5 : Hid (k = 2 → b' = 0 → ¬ el.length = 0 → stepsT g el = none → SE (.returned (.tuple #[.string ⟨#[]⟩, .bool false]))) := Lib.hid (by rintro rfl rfl hh he; exact HN1.out (stepT_noe hh he))
        have HS1 : Hid (k = 2 → b' = 0 → ∀ s a, condT 8 c = some s → stepsT g th = some a → el.length = 0 → JS g ss (j + 1) (T ++ ([105, 102, 32] ++ s ++ [32, 123] ++ a ++ [125]))) := Lib.hid (by rintro rfl rfl s a hs ha he; exact HST1.out _ HJ0.out (stepT_if hs ha he))
        have HS2 : Hid (k = 2 → b' = 0 → ∀ s a e, condT 8 c = some s → stepsT g th = some a → ¬ el.length = 0 → stepsT g el = some e → JS g ss (j + 1) (T ++ (([105, 102, 32] ++ s ++ [32, 123] ++ a ++ [125]) ++ ([32, 101, 108, 115, 101, 32, 123] ++ e ++ [125])))) := Lib.hid (by rintro rfl rfl s a e hs ha he hr; exact HST1.out _ HJ0.out (stepT_else hs ha he hr))
        clear HN1 HST1 HJ0 hk1
        have HLC1 := Lib.hid (HLC.out c)
        have HLT1 := Lib.hid (HLT.out th)
        have HLT2 := Lib.hid (HLT.out el)
        clear HLC HLT
        generalize condT 8 c = oc at *
        generalize stepsT g th = ot at *
        generalize hoe : stepsT g el = oe at *
        generalize hck : c.k = ck at *
        generalize hcv : c.v = cv at *
        generalize hcn : c.n = cn at *
        generalize hcl : c.ps.length = cl at *
        clear hck hcv hcn hcl
        generalize th.length = tl at *
        go_wp2_with fail
        go_at_call 39
        refine (HC.out _ HV1.out.1).mono ?_
        rintro e w1 ⟨⟨s, okc, rfl, HOC⟩, hbx⟩
        have HV2 : Hid (Below wr.heap.size wr w1 ∧ Cells w1 wr.heap.size _) := Lib.hid ⟨HV1.out.1.trans (hbx.mono HV1.out.1.size), HV1.out.2.bel hbx⟩
        clear hbx z0 z1 HV1 HC
        have x6 : w1.cell? ⟨wr.heap.size, 6, none⟩ = some (.slice pt tl ct) := HV2.out.2.c 6 _ rfl
        go_wp2_with fail
        go_at_call 22
        refine (HA.out _ HV2.out.1).mono ?_
        rintro e w2 ⟨⟨a, oka, rfl, HOA⟩, hbx⟩
        have HV3 : Hid (Below wr.heap.size wr w2 ∧ Cells w2 wr.heap.size _) := Lib.hid ⟨HV2.out.1.trans (hbx.mono HV2.out.1.size), HV2.out.2.bel hbx⟩
        clear hbx x6 HV2 HA
        have x0 : w2.cell? ⟨wr.heap.size, 0, none⟩ = some (.int .i64 k) := HV3.out.2.c 0 _ rfl
        have x1 : w2.cell? ⟨wr.heap.size, 1, none⟩ = some (.int .i64 b') := HV3.out.2.c 1 _ rfl
        have HB3 := Lib.hid (HK.out.1.trans (HV3.out.1.mono HK.out.1.size))
        by_cases hk2 : k = 2
        · by_cases hb0 : b' = 0
          · subst hk2; subst hb0
            cases okc with
            | false =>
              have HE := Lib.hid (HN3.out rfl rfl (HOC.out.2 rfl))
              clear HN2 HN3 HN4 HN5 HS1 HS2 HOC HOA HLC1 HLT1 HLT2 HIe1
              go_wp2_with fail
              go_ret2
              exact ⟨HE.out, HB3.out⟩
            | true =>
              cases oka with
              | false =>
                have HE := Lib.hid (HN4.out rfl rfl (HOA.out.2 rfl))
                clear HN2 HN3 HN4 HN5 HS1 HS2 HOC HOA HLC1 HLT1 HLT2 HIe1
                go_wp2_with fail
                go_ret2
                exact ⟨HE.out, HB3.out⟩
              | true =>
                have hsz := HLC1.out s (HOC.out.1 rfl)
                have haz := HLT1.out a (HOA.out.1 rfl)
                have q1 : ¬ 9223372036854775807 < 3 + (S s).size := by omega
                have q2 : ¬ 9223372036854775807 < 3 + (S s).size + 2 := by omega
                have q3 : ¬ 9223372036854775807 < 3 + (S s).size + 2 + (S a).size := by omega
                have q4 : ¬ 9223372036854775807 < 3 + (S s).size + 2 + (S a).size + 1 := by omega
                have q5 : ¬ 9223372036854775807 < (S T).size + (3 + (S s).size + 2 + (S a).size + 1) := by omega
                have HS1 := Lib.hid (HS1.out rfl rfl s a (HOC.out.1 rfl) (HOA.out.1 rfl))
                have HS2 := Lib.hid (fun e => HS2.out rfl rfl s a e (HOC.out.1 rfl) (HOA.out.1 rfl))
                have HN5 := Lib.hid (HN5.out rfl rfl)
                clear HN2 HN3 HN4 HOC HOA HLC1 HLT1
                by_cases he0 : el.length = 0
                · have HJ1 := Lib.hid (HS1.out he0)
                  have x7 : w2.cell? ⟨wr.heap.size, 7, none⟩ = some (.slice pe 0 ce) := by rw [HV3.out.2.c 7 _ rfl, he0]
                  have HK1 := Lib.hid (And.intro HB3.out (HK.out.2.bel HV3.out.1))
                  clear HS1 HS2 HN5 HLT2 HIe1 HV3 HB3 HK he0 hsl2
                  go_wp2_with fail
                  go_round
                  case rel => exact ⟨j + 1, _, by omega, by go_num, congrArg Value.string (txIf rfl rfl rfl), HJ1, HK1⟩
                  case measure => simp [intOf]; omega
                · have hpos : 0 < (el.length : Int) := by omega
                  have HEL : Hid (∀ wd, Below wr.heap.size wr wd → Calls Tryz.prog 22 #[.slice pe el.length ce, .int .i64 ((d : Int) + 1)] wd fun e w' => ((oe = none ∧ e = .returned (.tuple #[.string ⟨#[]⟩, .bool false])) ∨ (∃ x, oe = some x ∧ e = .returned (.tuple #[.string (S x), .bool true]))) ∧ Below wd.heap.size wd w') := Lib.hid fun wd hd =>
                    (HIe1.out wd hd).mono fun e w' h => ⟨by
                      have hh := h.1
                      unfold SEnd at hh
                      rw [hoe] at hh
                      cases oe with
                      | some x => exact .inr ⟨x, rfl, hh⟩
                      | none => exact .inl ⟨rfl, hh⟩, h.2⟩
                  have HN6 := Lib.hid (HN5.out he0)
                  have HS3 := Lib.hid (fun e => HS2.out e he0)
                  have x7 : w2.cell? ⟨wr.heap.size, 7, none⟩ = some (.slice pe el.length ce) := HV3.out.2.c 7 _ rfl
                  clear HS1 HS2 HN5 HIe1 he0 hoe
                  generalize el.length = ell at *
                  go_wp2_with fail
                  go_at_call 22
                  refine (HEL.out _ HV3.out.1).mono ?_
                  rintro e w3 ⟨hr, hbx⟩
                  have HV4 := Lib.hid (HV3.out.1.trans (hbx.mono HV3.out.1.size))
                  have HB4 := Lib.hid (HK.out.1.trans (HV4.out.mono HK.out.1.size))
                  clear hbx HEL x0 x1 x7 HV3 HB3
                  rcases hr with ⟨hn, rfl⟩ | ⟨x, hx, rfl⟩
                  · have HE := Lib.hid (HN6.out hn)
                    clear hn HN6 HS3 HLT2
                    go_wp2_with fail
                    go_ret2
                    exact ⟨HE.out, HB4.out⟩
                  · have hxz := HLT2.out x hx
                    have HJ1 := Lib.hid (HS3.out x hx)
                    have q6 : ¬ 9223372036854775807 < 7 + (S x).size := by omega
                    have q7 : ¬ 9223372036854775807 < 7 + (S x).size + 1 := by omega
                    have q8 : ¬ 9223372036854775807 < (S T).size + (3 + (S s).size + 2 + (S a).size + 1) + (7 + (S x).size + 1) := by omega
                    have HK1 := Lib.hid (And.intro HB4.out (HK.out.2.bel HV4.out))
                    clear hx HN6 HS3 HLT2 HV4 HB4 HK
                    go_wp2_with fail
                    go_round
                    case rel => exact ⟨j + 1, _, by omega, by go_num, congrArg Value.string (txElse rfl rfl rfl rfl), HJ1, HK1⟩
                    case measure => simp [intOf]; omega
          · have HE := Lib.hid (HN2.out (fun hh => hb0 hh.2))
            have e2 : (b' != 0) = true := by simpa using hb0
            subst hk2
            clear HN2 HN3 HN4 HN5 HS1 HS2 HOC HOA HLC1 HLT1 HLT2 HIe1 hb0
            go_wp2_with fail
            go_ret2
            exact ⟨HE.out, HB3.out⟩
        · have HE := Lib.hid (HN2.out (fun hh => hk2 hh.1))
          have e2 : (k != 2) = true := by simpa using hk2
          clear HN2 HN3 HN4 HN5 HS1 HS2 HOC HOA HLC1 HLT1 HLT2 HIe1 hk2
          go_wp2_with fail
          go_ret2
          exact ⟨HE.out, HB3.out⟩
    · obtain rfl : j = ss.length := by omega
      have HE := Lib.hid (HD.out T HJ.out)
      have wj1 : ¬ (ss.length : Int) < (ss.length : Int) := by omega
      clear HIc HIt HIe HX HN HST HD HJ
      go_wp2_with fail
      go_ret2
      exact ⟨HE.out, HK.out.1⟩
end Go.Proofs.YtdhdjfkknfbmhaaGreatDoor
/- The statements' writing of steps, whole. -/
namespace Go.Proofs.YtdhdjfkknfbmhaaGreatDoor
open Go.RowKit

theorem stepsText_any (Q : Nat → Prop) : ∀ (g d : Nat), g + d = 5 → ∀ (ss : List St) (w : World) (p : Option Addr) (cap : Nat), Gl w → SsIn w Q ss p cap →
    Calls Tryz.prog 22 #[.slice p ss.length cap, .int .i64 d] w fun e w' => SEnd g ss e ∧ Below w.heap.size w w'
  | 0, d, hgd, ss, w, p, cap, _, h => stepsText_bad 0 d hgd ss (by cases h; omega) (.inr (.inr (by omega))) w p cap
  | g + 1, d, hgd, ss, w, p, cap, hG, h => by
    by_cases hc : 1 ≤ ss.length ∧ ss.length ≤ 12
    · exact stepsText_main g d (by omega) (by omega) ss hc.1 hc.2 w hG p cap Q h fun ss wx px cx hg hx => stepsText_any Q g (d + 1) (by omega) ss wx px cx hg hx
    · exact stepsText_bad (g + 1) d hgd ss (by cases h; omega) (by omega) w p cap
end Go.Proofs.YtdhdjfkknfbmhaaGreatDoor
/- SyntaxSteps: the law's walk. -/
namespace Go.Proofs.YtdhdjfkknfbmhaaGreatDoor.syntaxSteps
open Go.RowKit

theorem BAt.conv (w : World) (l : Bs) (K : Nat) (fr : Nat × Nat) : BAt (w.alloc (.cells (bytesRow (S l) K) 5 fr)) 0 (some ⟨w.heap.size, 0, none⟩) l :=
  ⟨fun _ => ⟨_, 0, rfl, Nat.zero_le _, by simp, fun i hi => by
    rw [World.cell?_alloc_mark, Nat.zero_add]
    unfold bytesRow
    rw [Array.getElem?_append_left (by simp [S]; exact hi)]
    simp [S, hi]⟩⟩

set_option maxHeartbeats 4000000 in
set_option maxRecDepth 100000 in
theorem walk (w : World) (hG : GlA w) (ss : List St) (p : Option Addr) (cap : Nat) (Q : Nat → Prop) (h : SsIn w Q ss p cap) :
    Calls Tryz.prog 6 #[.slice p ss.length cap] w fun e w' => e = .returned (.bool true) ∧ Below w.heap.size w w' := by
  have HG := Lib.hid hG
  have HS := Lib.hid (sane_any w hG)
  have HT : Hid (∀ w1, Below w.heap.size w w1 → Calls Tryz.prog 22 #[.slice p ss.length cap, .int .i64 0] w1 fun e w' => SEnd 5 ss e ∧ Below w1.heap.size w1 w') := Lib.hid fun w1 hb =>
    stepsText_any Q 5 0 rfl ss w1 p cap (hG.gl.bel' hb) (h.bel hb)
  have HIn := Lib.hid h
  clear hG h
  cases ht : stepsT 5 ss with
  | none =>
    unfold SEnd at HT
    rw [ht] at HT
    clear ht
    go_enter Tryz.func6, Tryz.ntmps6
    go_wp2_with fail
    go_at_call 9
    refine HS.out.mono ?_
    rintro e w1 ⟨rfl, hb'⟩
    have HB1 := Lib.hid hb'; clear hb'
    go_wp2_with fail
    go_at_call 22
    refine (HT.out _ HB1.out).mono ?_
    rintro e w2 ⟨rfl, hb'⟩
    have HB2 := Lib.hid (HB1.out.trans (hb'.mono HB1.out.size)); clear hb'
    go_wp2_with fail
    go_ret
    exact ⟨rfl, HB2.out⟩
  | some s =>
    unfold SEnd at HT
    rw [ht] at HT
    have hsz := S_size s
    by_cases hl : 65536 < s.length
    · have hli : (65536 : Int) < (s.length : Int) := by omega
      clear ht hl
      go_enter Tryz.func6, Tryz.ntmps6
      go_wp2_with fail
      go_at_call 9
      refine HS.out.mono ?_
      rintro e w1 ⟨rfl, hb'⟩
      have HB1 := Lib.hid hb'; clear hb'
      go_wp2_with fail
      go_at_call 22
      refine (HT.out _ HB1.out).mono ?_
      rintro e w2 ⟨rfl, hb'⟩
      have HB2 := Lib.hid (HB1.out.trans (hb'.mono HB1.out.size)); clear hb'
      go_wp2_with fail
      go_ret
      exact ⟨rfl, HB2.out⟩
    · have hli : ¬ (65536 : Int) < (s.length : Int) := by omega
      have HR : Hid (∀ w1, Below w.heap.size w w1 → ∀ q k, BAt w1 0 q s → Calls Tryz.prog 13 #[.slice q s.length k] w1 fun e w' => Below w1.heap.size w1 w' ∧ ∃ p' k', e = .returned (.tuple #[.slice p' ss.length k', .int .i64 0, .int .i64 0]) ∧ SsIn w' (fun b => w1.heap.size ≤ b) ss p' k') := Lib.hid fun w1 hb q k hq => by
        have hh := steps_top s (by omega) w1 (HG.out.gl.bel' hb) (HG.out.gs.bel hb) 0 q k hq
        rw [steps_again ht (by omega)] at hh
        exact hh
      clear ht hl
      have kb := fun (w : World) (x : ByteArray) => run_bytes_of_string (P := Tryz.prog) w 9 22 5 x Tryz.underlying9 Tryz.underlying22 Tryz.underlying5
      go_enter Tryz.func6, Tryz.ntmps6
      go_wp2_with fail
      go_at_call 9
      refine HS.out.mono ?_
      rintro e w1 ⟨rfl, hb'⟩
      have HB1 := Lib.hid hb'; clear hb'
      go_wp2_with fail
      go_at_call 22
      refine (HT.out _ HB1.out).mono ?_
      rintro e w2 ⟨rfl, hb'⟩
      have HB2 := Lib.hid (HB1.out.trans (hb'.mono HB1.out.size)); clear hb'
      go_wp2_with fail
      go_at_call 13
      have hbd := HB2.out.drew
      refine (HR.out _ (hbd.alloc hbd.size _) _ _ (BAt.conv _ _ _ _)).mono ?_
      rintro e w3 ⟨hb', p', k', rfl, hin⟩
      have HB3 := Lib.hid ((hbd.alloc hbd.size _).trans (hb'.mono (hbd.alloc hbd.size _).size))
      have HC := Lib.hid (sameSteps_any hin w3 (Below.refl _ _) _ _ _ (HIn.out.bel HB3.out))
      clear hb' hbd hin kb
      go_wp2_with fail
      go_at_call 16
      refine HC.out.mono ?_
      rintro e w4 ⟨rfl, hb'⟩
      have HB4 := Lib.hid (HB3.out.trans (hb'.mono HB3.out.size)); clear hb'
      go_wp2_with fail
      go_ret
      exact ⟨rfl, HB4.out⟩
end Go.Proofs.YtdhdjfkknfbmhaaGreatDoor.syntaxSteps
/- What the listed variables hold, out of the row's condition (the rows of syntax). The numbers 220, 276, 278 are types of this seat: the element of escapes, *errors.errorString, errors.errorString. -/
namespace Go.Proofs.YtdhdjfkknfbmhaaGreatDoor
open Go.ChangeShapes Go.WideShapes Go.ChangeAt Go.RowKit

theorem c9 : Tryz.prog.cellsOf 9 = 1 := by kernel_rfl
theorem c5 : Tryz.prog.cellsOf 5 = 1 := by kernel_rfl
theorem c220 : Tryz.prog.cellsOf 220 = 2 := by kernel_rfl
theorem strTab {W : World} {cs : List Value} {t n fuel : Nat} {p : List MemPlace} {ss : List Bs} (ht : Tryz.prog.underlying t = some (.array n 9)) (hn : ss.length = n)
    (h : DataW.trod (fun _ => ()) Tryz.prog W 0 (fun _ => true) false fuel t cs = some (.agg (ss.map fun s => .lit (.string s)), p)) : ∀ i (hi : i < ss.length), cs[i]? = some (.string (S ss[i])) := by
  intro i hi
  obtain ⟨xs, m, _, ex, _, hl, hel⟩ := DataW.trod_array ht h
  have hE := hel i (by omega)
  rw [c9, Nat.mul_one, List.getElem?_eq_getElem (by omega : i < xs.length)] at hE
  obtain ⟨s, e1, e2, _⟩ := DataW.trod_string Tryz.underlying9 hE
  have e3 : ss.map (fun s => (DataW.lit (.string s) : DataW Unit)) = xs.map (·.1) := DataW.agg.inj (Prod.mk.inj ex).1
  have e4 : (xs.map (·.1))[i]? = some (.lit (.string ss[i])) := by rw [← e3]; simp [hi]
  rw [List.getElem?_map, List.getElem?_eq_getElem (by omega : i < xs.length), e2] at e4
  have hs : s.data.toList = ss[i] := by simpa using e4
  have : cs[i]? = some (.string s) := by
    have h0 : ((cs.drop i).take 1)[0]? = some (.string s) := by rw [e1]; rfl
    simpa using h0
  rw [this, ← hs, S_list]
theorem escTab {W : World} {cs : List Value} {fuel : Nat} {p : List MemPlace}
    (h : DataW.trod (fun _ => ()) Tryz.prog W 0 (fun _ => true) false fuel 221 cs = some (.agg ((List.range 3).map fun i => .agg [.lit (.string (escW.getD i [])), .lit (.int .u8 ((escC.getD i 0).toNat : Int))]), p)) :
    ∀ i, i < 3 → cs[i * 2]? = some (.string (S (escW.getD i []))) ∧ cs[i * 2 + 1]? = some (.int .u8 (escC.getD i 0).toNat) := by
  intro i hi
  obtain ⟨xs, m, _, ex, _, hl, hel⟩ := DataW.trod_array Tryz.underlying221 h
  have hE := hel i hi
  rw [c220, List.getElem?_eq_getElem (by omega : i < xs.length)] at hE
  obtain ⟨y0, y1, m', e0, hlen, h0, h1⟩ := trod_struct2 Tryz.underlying220 hE
  dsimp only at h0 h1
  rw [c9] at h0
  rw [c5] at h1
  obtain ⟨s, a1, a2, _⟩ := DataW.trod_string Tryz.underlying9 h0
  obtain ⟨z, b1, b2, _⟩ := DataW.trod_int Tryz.underlying5 h1
  have e3 := DataW.agg.inj (Prod.mk.inj ex).1
  have e4 : (xs.map (·.1))[i]? = some (.agg [.lit (.string (escW.getD i [])), .lit (.int .u8 ((escC.getD i 0).toNat : Int))]) := by rw [← e3]; simp [hi]
  rw [List.getElem?_map, List.getElem?_eq_getElem (by omega : i < xs.length), e0, a2, b2] at e4
  simp only [Option.map_some, Option.some.injEq, DataW.agg.injEq, List.cons.injEq, DataW.lit.injEq, Lit.string.injEq, Lit.int.injEq, true_and, and_true] at e4
  refine ⟨?_, ?_⟩
  · have h2 : ((((cs.drop (i * 2)).take 2).drop 0).take 1)[0]? = some (.string s) := by rw [a1]; rfl
    rw [← e4.1, S_list]
    simpa using h2
  · have h2 : ((((cs.drop (i * 2)).take 2).drop 1).take 1)[0]? = some (.int .u8 z) := by rw [b1]; rfl
    rw [← e4.2]
    simpa using h2

theorem of_reads {W : World} {n : String} {g t : Nat} {d : DataW Unit} (hg : Tryz.prog.globalNamed n = some g) (ht : (Tryz.prog.globals[g]?).map (·.type) = some t) (h : Lib.VarReads Tryz.prog W n d) :
    ∃ (cs : Array Value) (fuel : Nat) (p : List MemPlace), (∀ off, W.cell? ⟨g, off, none⟩ = cs[off]?) ∧ g < W.heap.size ∧ DataW.trod (fun _ => ()) Tryz.prog W 0 (fun _ => true) false fuel t cs.toList = some (d, p) := by
  obtain ⟨g', t', cs, fuel, p, hg', ht', hv, hd⟩ := h
  obtain rfl := Option.some.inj (hg.symm.trans hg')
  obtain rfl := Option.some.inj (ht.symm.trans ht')
  refine ⟨cs, fuel, p, World.var?_cell hg hv, ?_, hd⟩
  unfold World.var? at hv
  rw [hg, Option.bind_some] at hv
  cases hh : W.heap[g]? with
  | none => rw [hh] at hv; cases hv
  | some o => exact (Array.getElem?_eq_some_iff.1 hh).1
theorem intTab {W : World} {cs : List Value} {t n fuel : Nat} {p : List MemPlace} {ss : List Int} (ht : Tryz.prog.underlying t = some (.array n 3)) (hn : ss.length = n)
    (h : DataW.trod (fun _ => ()) Tryz.prog W 0 (fun _ => true) false fuel t cs = some (.agg (ss.map fun s => .lit (.int .i64 s)), p)) : ∀ i (hi : i < ss.length), cs[i]? = some (.int .i64 ss[i]) := by
  intro i hi
  obtain ⟨xs, m, _, ex, _, hl, hel⟩ := DataW.trod_array ht h
  have hE := hel i (by omega)
  rw [show Tryz.prog.cellsOf 3 = 1 by kernel_rfl, Nat.mul_one, List.getElem?_eq_getElem (by omega : i < xs.length)] at hE
  obtain ⟨s, e1, e2, _⟩ := DataW.trod_int Tryz.underlying3 hE
  have e3 : ss.map (fun s => (DataW.lit (.int .i64 s) : DataW Unit)) = xs.map (·.1) := DataW.agg.inj (Prod.mk.inj ex).1
  have e4 : (xs.map (·.1))[i]? = some (.lit (.int .i64 ss[i])) := by rw [← e3]; simp [hi]
  rw [List.getElem?_map, List.getElem?_eq_getElem (by omega : i < xs.length), e2] at e4
  have hs : s = ss[i] := by simpa using e4
  have : cs[i]? = some (.int .i64 s) := by
    have h0 : ((cs.drop i).take 1)[0]? = some (.int .i64 s) := by rw [e1]; rfl
    simpa using h0
  rw [this, ← hs]
theorem rowErr (u : TypeId) (h : Tryz.prog.typeName? 3 u = some "*errors.errorString") : u = 276 :=
  have star : "*" ++ "errors.errorString" = "*errors.errorString" := by decide
  typeName_ptr_named (nm := "errors.errorString") (by rw [star]; kernel_rfl) (by kernel_rfl) (by decide) u (by rw [star]; exact h)
theorem of_laid {W : World} (h : laidMetH Tryz.prog Rows.syntaxStepsRow.laid W) (hsh : W.ShapedOpen Tryz.prog) : GlA W := by
  rw [MakeChecks.laidMetH_plain _ _ _ (by kernel_rfl)] at h
  have hr := fun n d hm => Lib.laidMet.reads h (n := n) (d := d) hm
  obtain ⟨cc, fc, pc, hc, _, hdc⟩ := of_reads (g := 0) (t := 175) (by kernel_rfl) (by kernel_rfl) (hr "stopwatch/lexis.classes" _ (.tail _ (.tail _ (.tail _ (.tail _ (.tail _ (.tail _ (.head _))))))))
  obtain ⟨cs, fs, ps, hs, _, hds⟩ := of_reads (g := 2) (t := 214) (by kernel_rfl) (by kernel_rfl) (hr "stopwatch/lexis.signs" _ (.tail _ (.tail _ (.tail _ (.tail _ (.tail _ (.tail _ (.tail _ (.head _)))))))))
  obtain ⟨ce, fe, pe, he, _, hde⟩ := of_reads (g := 3) (t := 221) (by kernel_rfl) (by kernel_rfl) (hr "stopwatch/lexis.escapes" _ (.tail _ (.tail _ (.tail _ (.tail _ (.tail _ (.tail _ (.tail _ (.tail _ (.head _))))))))))
  obtain ⟨ci, fi, pi, hi, _, hdi⟩ := of_reads (g := 1) (t := 202) (by kernel_rfl) (by kernel_rfl) (hr "stopwatch/syntax.criteria" _ (.tail _ (.tail _ (.tail _ (.tail _ (.tail _ (.tail _ (.tail _ (.tail _ (.tail _ (.head _)))))))))))
  obtain ⟨c8, f8, p8, _, h8, _⟩ := of_reads (g := 11) (t := 287) (by kernel_rfl) (by kernel_rfl) (hr "unicode/utf8.acceptRanges" _ (.tail _ (.tail _ (.tail _ (.head _)))))
  obtain ⟨a1, s1, hv1, _⟩ := laid_sentinel h.tail.tail.tail.tail (g := 7) (ti := 198) (by kernel_rfl) (by kernel_rfl) Tryz.underlying198 rowErr Tryz.underlying276 Tryz.underlying278 rfl rfl Tryz.underlying9 (by kernel_rfl) (by kernel_rfl)
  obtain ⟨a2, s2, hv2, _⟩ := laid_sentinel h.tail.tail.tail.tail.tail (g := 6) (ti := 198) (by kernel_rfl) (by kernel_rfl) Tryz.underlying198 rowErr Tryz.underlying276 Tryz.underlying278 rfl rfl Tryz.underlying9 (by kernel_rfl) (by kernel_rfl)
  have hS := strTab (ss := clsL) Tryz.underlying175 rfl hdc
  have hT := strTab (ss := signs) Tryz.underlying214 rfl hds
  have hE := escTab hde
  have hI := intTab (ss := [1, 2, 3, 4, 5]) Tryz.underlying202 rfl hdi
  have hsz : 12 ≤ W.heap.size := h8
  have hgl : Gl W := by
    refine ⟨hsz, fun i hi => ?_, fun i hi => ?_, fun i hi => ?_, fun i hi => ?_, ?_, ?_⟩
    · rw [hc, ← Array.getElem?_toList]; exact hS i hi
    · rw [hs, ← Array.getElem?_toList]; exact hT i hi
    · rw [he, ← Array.getElem?_toList, (hE i hi).1]; simp [List.getD, hi]
    · rw [he, ← Array.getElem?_toList, (hE i hi).2]; simp [List.getD, hi]
    · exact cell_of_shapedOpen_int (g := 5) (t := 3) (zero := #[.int .i64 0]) hsh (of_decide_eq_true (by kernel_rfl)) (by kernel_rfl) rfl (by kernel_rfl) (by kernel_rfl) Tryz.underlying3
    · exact Lib.tabIs_of_head (g := 4) (t := 230) (e := 206) (n := 20) (by kernel_rfl) (by kernel_rfl) Tryz.underlying230 (by kernel_rfl) (by kernel_rfl) (by kernel_rfl) h.tail.tail
  refine ⟨hgl, ⟨hsz, ⟨_, by simpa using World.var?_cell (by kernel_rfl) hv2 0, .inr ⟨_, _, rfl⟩⟩, ⟨_, by simpa using World.var?_cell (by kernel_rfl) hv1 0, .inr ⟨_, _, rfl⟩⟩⟩, fun i hi' => ?_⟩
  rw [hi, ← Array.getElem?_toList, hI i (by simpa using hi')]
  match i, hi' with
  | 0, _ => rfl
  | 1, _ => rfl
  | 2, _ => rfl
  | 3, _ => rfl
  | 4, _ => rfl
end Go.Proofs.YtdhdjfkknfbmhaaGreatDoor
/- Parameters: a list of steps, read out of memory. -/
namespace Go.Proofs.YtdhdjfkknfbmhaaGreatDoor
open Go.ChangeShapes Go.WideShapes Go.ChangeAt Go.RowKit

theorem laidOut : laidOutB Tryz.prog = true := by kernel_rfl
theorem cellsCd : Tryz.prog.cellsOf 49 = 4 := by kernel_rfl
theorem cellsSt : Tryz.prog.cellsOf 73 = 8 := by kernel_rfl
theorem cellsI' : Tryz.prog.cellsOf 3 = 1 := by kernel_rfl
theorem cellsLC : Tryz.prog.cellsOf 47 = 1 := by kernel_rfl
theorem cellsLT : Tryz.prog.cellsOf 38 = 1 := by kernel_rfl
theorem bytesC : Tryz.prog.bytesOf 49 = 48 := by kernel_rfl
theorem bytesT : Tryz.prog.bytesOf 73 = 112 := by kernel_rfl
theorem weightsAll_mem {H : Type} (P : Program) (e : TypeId) (l : List (DataW H)) (d : DataW H) (h : d ∈ l) : ∀ n ∈ d.weights P e, n ∈ DataW.weightsAll P e l := by
  induction l with
  | nil => cases h
  | cons x l ih =>
    intro n hn
    rw [DataW.weightsAll, List.mem_append]
    rcases List.mem_cons.1 h with rfl | h
    · exact .inl hn
    · exact .inr (ih h n hn)

/-- Four cells that read as a condition. -/
def OpenC (fuel : Nat) : Prop := ∀ (H : Type) (enc : TypeId × Value → H) (W : World) (cs : List Value) (x : DataW H × List MemPlace),
  DataW.trod enc Tryz.prog W 0 (fun _ => true) true fuel 49 cs = some x → (∀ n ∈ x.1.weights Tryz.prog 49, n ≤ reachBytes) →
  ∃ c p cap, cs = [.int .i64 c.k, .int .i64 c.v, .int .i64 c.n, .slice p c.ps.length cap] ∧ CdIn W (fun _ => True) c p cap

set_option maxRecDepth 100000 in
/-- A slice that reads as a list of conditions. -/
theorem open_conds {fuel : Nat} (ih : ∀ n, n < fuel → OpenC n) {H : Type} {enc : TypeId × Value → H} {W : World} {cs : List Value} {x : DataW H × List MemPlace}
    (h : DataW.trod enc Tryz.prog W 0 (fun _ => true) true fuel 47 cs = some x) (hw : ∀ n ∈ x.1.weights Tryz.prog 47, n ≤ reachBytes) :
    ∃ l p cap, cs = [.slice p (l : List Cd).length cap] ∧ ∀ k v n, CdIn W (fun _ => True) (.mk k v n l) p cap := by
  rcases DataW.trod_slice Tryz.underlying47 h with ⟨rfl, rfl⟩ | ⟨a, len, cap, elems, rest, n, rfl, rfl, rfl, hb, hl, hm, hlen, hel, _, _⟩
  · exact ⟨[], none, 0, rfl, fun k v n => .mk k v n [] none 0 0 0 (fun _ => none) (fun _ => 0) (by simp) (by simp) (by simp) (fun _ => rfl) (fun h => absurd rfl h) (fun i h => by simp at h) (fun i h => by simp at h)⟩
  · rw [DataW.weights, Tryz.underlying47] at hw
    have hsz := hw _ (List.mem_cons_self ..)
    rw [bytesC] at hsz
    simp only [List.length_map, reachBytes] at hsz
    have hlen2 : len ≤ 3000000000000 := by omega
    have key : ∀ i : Nat, ∃ e : Cd × Option Addr × Nat, i < len → (W.cells? 0 (a.add (i * 4)) 4 = some [.int .i64 e.1.k, .int .i64 e.1.v, .int .i64 e.1.n, .slice e.2.1 e.1.ps.length e.2.2]) ∧ CdIn W (fun _ => True) e.1 e.2.1 e.2.2 := by
      intro i
      by_cases hi : i < len
      · have h1 := hel i hi
        rw [cellsCd, List.getElem?_eq_getElem (by omega)] at h1
        obtain ⟨cs', h2, h3⟩ := Option.bind_eq_some_iff.1 h1
        obtain ⟨v, p, c, rfl, hv⟩ := ih n (by omega) H enc W cs' _ h3 fun m hmem => by
          refine hw m (List.mem_cons_of_mem _ (List.mem_append_left _ ?_))
          exact weightsAll_mem Tryz.prog 49 _ _ (List.mem_map.2 ⟨_, List.getElem_mem _, rfl⟩) m hmem
        exact ⟨(v, p, c), fun _ => ⟨h2, hv⟩⟩
      · exact ⟨(.zero, none, 0), fun h => absurd h hi⟩
    obtain ⟨f, hf⟩ := Classical.axiomOfChoice key
    have hll : ((List.range len).map fun i => (f i).1).length = len := by simp
    refine ⟨(List.range len).map fun i => (f i).1, some a, cap, by rw [hll], fun k v n => ?_⟩
    obtain ⟨b, off, spot⟩ := a
    by_cases h0 : len = 0
    · subst h0
      exact .mk k v n _ _ cap 0 0 (fun _ => none) (fun _ => 0) (by simp) (by simp) (by unfold maxLen at hm; omega) (fun e => by cases e) (fun h => absurd rfl h) (fun i h => by simp at h) (fun i h => by simp at h)
    · have hc0 := World.cells?_some (hf 0 (by omega)).1
      have hspot : spot = none := by simpa [Addr.add] using World.cell?_spot (hc0.2.2 0 (by omega))
      subst hspot
      have hblk := World.block_lt_of_cell? _ _ (hc0.2.2 0 (by omega))
      rw [addr_add, addr_add] at hblk
      refine .mk k v n _ _ cap b off (fun i => (f i).2.1) (fun i => (f i).2.2) (by rw [hll]; omega) (by rw [hll]; exact hl) (by unfold maxLen at hm; omega) (fun e => by cases e) (fun _ => ⟨rfl, trivial, hblk⟩) (fun i hi => ?_) (fun i hi => ?_)
      · rw [hll] at hi
        have hci := (World.cells?_some (hf i hi).1).2.2
        have g0 := hci 0 (by omega)
        have g1 := hci 1 (by omega)
        have g2 := hci 2 (by omega)
        have g3 := hci 3 (by omega)
        rw [addr_add, addr_add] at g0 g1 g2 g3
        simp only [List.getElem_map, List.getElem_range]
        exact ⟨g0, g1, g2, g3⟩
      · rw [hll] at hi
        simp only [List.getElem_map, List.getElem_range]
        exact (hf i hi).2

set_option maxRecDepth 100000 in
theorem openC_all (fuel : Nat) : OpenC fuel := by
  induction fuel using Nat.strongRecOn with
  | ind fuel ih =>
    intro H enc W cs x h hw
    obtain ⟨xs, n, rfl, rfl, hl, hxl, hg⟩ := DataW.trod_struct Tryz.underlying49 h
    rw [cellsCd] at hl
    match cs, hl with
    | [u0, u1, u2, u3], _ =>
      have g0 := hg 0 _ rfl
      have g1 := hg 1 _ rfl
      have g2 := hg 2 _ rfl
      have g3 := hg 3 _ rfl
      match xs, hxl with
      | [y0, y1, y2, y3], _ =>
        simp [cellsI', cellsLC] at g0 g1 g2 g3
        obtain ⟨n0, e0, _, w0⟩ := DataW.trod_int Tryz.underlying3 g0
        obtain ⟨n1, e1, _, w1⟩ := DataW.trod_int Tryz.underlying3 g1
        obtain ⟨n2, e2, _, w2⟩ := DataW.trod_int Tryz.underlying3 g2
        rw [DataW.weights, Tryz.underlying49] at hw
        obtain ⟨l, p, cap, e3, hlat⟩ := open_conds (fun m hm => ih m (by omega)) g3 fun m hm => hw m (DataW.weights_mem_each (j := 3) (t := 47) (d := y3.1) rfl rfl m hm)
        have e0' : u0 = .int .i64 n0 := by simpa using e0
        have e1' : u1 = .int .i64 n1 := by simpa using e1
        have e2' : u2 = .int .i64 n2 := by simpa using e2
        have e3' : u3 = .slice p l.length cap := by simpa using e3
        subst e0' e1' e2' e3'
        exact ⟨.mk n0 n1 n2 l, p, cap, rfl, hlat n0 n1 n2⟩

/-- Eight cells that read as a step. -/
def OpenT (fuel : Nat) : Prop := ∀ (H : Type) (enc : TypeId × Value → H) (W : World) (cs : List Value) (x : DataW H × List MemPlace),
  DataW.trod enc Tryz.prog W 0 (fun _ => true) true fuel 73 cs = some x → (∀ n ∈ x.1.weights Tryz.prog 73, n ≤ reachBytes) →
  ∃ s y, cs = cellsS s y ∧ StIn W (fun _ => True) s y

set_option maxRecDepth 100000 in
/-- A slice that reads as a list of steps. -/
theorem open_list {fuel : Nat} (ih : ∀ n, n < fuel → OpenT n) {H : Type} {enc : TypeId × Value → H} {W : World} {cs : List Value} {x : DataW H × List MemPlace}
    (h : DataW.trod enc Tryz.prog W 0 (fun _ => true) true fuel 38 cs = some x) (hw : ∀ n ∈ x.1.weights Tryz.prog 38, n ≤ reachBytes) :
    ∃ l p cap, cs = [.slice p (l : List St).length cap] ∧ SsIn W (fun _ => True) l p cap := by
  rcases DataW.trod_slice Tryz.underlying38 h with ⟨rfl, rfl⟩ | ⟨a, len, cap, elems, rest, n, rfl, rfl, rfl, hb, hl, hm, hlen, hel, _, _⟩
  · exact ⟨[], none, 0, rfl, SsIn.nil⟩
  · rw [DataW.weights, Tryz.underlying38] at hw
    have hsz := hw _ (List.mem_cons_self ..)
    rw [bytesT] at hsz
    simp only [List.length_map, reachBytes] at hsz
    have hlen2 : len ≤ 3000000000000 := by omega
    have key : ∀ i : Nat, ∃ e : St × Loc, i < len → (W.cells? 0 (a.add (i * 8)) 8 = some (cellsS e.1 e.2)) ∧ StIn W (fun _ => True) e.1 e.2 := by
      intro i
      by_cases hi : i < len
      · have h1 := hel i hi
        rw [cellsSt, List.getElem?_eq_getElem (by omega)] at h1
        obtain ⟨cs', h2, h3⟩ := Option.bind_eq_some_iff.1 h1
        obtain ⟨s, y, rfl, hv⟩ := ih n (by omega) H enc W cs' _ h3 fun m hmem => by
          refine hw m (List.mem_cons_of_mem _ (List.mem_append_left _ ?_))
          exact weightsAll_mem Tryz.prog 73 _ _ (List.mem_map.2 ⟨_, List.getElem_mem _, rfl⟩) m hmem
        exact ⟨(s, y), fun _ => ⟨h2, hv⟩⟩
      · exact ⟨(.mk 0 0 .zero [] [], ⟨none, 0, none, 0, none, 0⟩), fun h => absurd h hi⟩
    obtain ⟨f, hf⟩ := Classical.axiomOfChoice key
    have hll : ((List.range len).map fun i => (f i).1).length = len := by simp
    refine ⟨(List.range len).map fun i => (f i).1, some a, cap, by rw [hll], ?_⟩
    obtain ⟨b, off, spot⟩ := a
    by_cases h0 : len = 0
    · subst h0
      exact .mk _ _ cap 0 0 (fun _ => ⟨none, 0, none, 0, none, 0⟩) (by simp) (by simp) (by unfold maxLen at hm; omega) (fun e => by cases e) (fun h => absurd rfl h) (fun i h => by simp at h) (fun i h => by simp at h) (fun i h => by simp at h) (fun i h => by simp at h)
    · have hc0 := World.cells?_some (hf 0 (by omega)).1
      have hspot : spot = none := by simpa [Addr.add] using World.cell?_spot (hc0.2.2 0 (by omega))
      subst hspot
      have hblk := World.block_lt_of_cell? _ _ (hc0.2.2 0 (by omega))
      rw [addr_add, addr_add] at hblk
      refine .mk _ _ cap b off (fun i => (f i).2) (by rw [hll]; omega) (by rw [hll]; exact hl) (by unfold maxLen at hm; omega) (fun e => by cases e) (fun _ => ⟨rfl, trivial, hblk⟩) (fun i hi j u hu => ?_) (fun i hi => ?_) (fun i hi => ?_) (fun i hi => ?_)
      · rw [hll] at hi
        simp only [List.getElem_map, List.getElem_range] at hu
        have hj : j < 8 := by have := (List.getElem?_eq_some_iff.1 hu).1; simpa [cellsS] using this
        have hci := (World.cells?_some (hf i hi).1).2.2 j (by omega)
        rw [addr_add, addr_add] at hci
        rw [hci]
        exact hu
      · rw [hll] at hi
        simp only [List.getElem_map, List.getElem_range]
        exact (hf i hi).2.cd
      · rw [hll] at hi
        simp only [List.getElem_map, List.getElem_range]
        exact (hf i hi).2.th
      · rw [hll] at hi
        simp only [List.getElem_map, List.getElem_range]
        exact (hf i hi).2.el

set_option maxRecDepth 100000 in
theorem openT_all (fuel : Nat) : OpenT fuel := by
  induction fuel using Nat.strongRecOn with
  | ind fuel ih =>
    intro H enc W cs x h hw
    obtain ⟨xs, n, rfl, rfl, hl, hxl, hg⟩ := DataW.trod_struct Tryz.underlying73 h
    rw [cellsSt] at hl
    match cs, hl with
    | [u0, u1, u2, u3, u4, u5, u6, u7], _ =>
      have g0 := hg 0 _ rfl
      have g1 := hg 1 _ rfl
      have g2 := hg 2 _ rfl
      have g3 := hg 3 _ rfl
      have g4 := hg 4 _ rfl
      match xs, hxl with
      | [y0, y1, y2, y3, y4], _ =>
        simp [cellsI', cellsCd, cellsLT] at g0 g1 g2 g3 g4
        obtain ⟨n0, e0, _, w0⟩ := DataW.trod_int Tryz.underlying3 g0
        obtain ⟨n1, e1, _, w1⟩ := DataW.trod_int Tryz.underlying3 g1
        rw [DataW.weights, Tryz.underlying73] at hw
        obtain ⟨c, pc, cc, e2, hcd⟩ := openC_all _ H enc W _ _ g2 fun m hm => hw m (DataW.weights_mem_each (j := 2) (t := 49) (d := y2.1) rfl rfl m hm)
        obtain ⟨th, pt, ct, e3, hth⟩ := open_list (fun m hm => ih m (by omega)) g3 fun m hm => hw m (DataW.weights_mem_each (j := 3) (t := 38) (d := y3.1) rfl rfl m hm)
        obtain ⟨el, pe, ce, e4, hel⟩ := open_list (fun m hm => ih m (by omega)) g4 fun m hm => hw m (DataW.weights_mem_each (j := 4) (t := 38) (d := y4.1) rfl rfl m hm)
        refine ⟨.mk n0 n1 c th el, ⟨pc, cc, pt, ct, pe, ce⟩, ?_, ⟨hcd, hth, hel⟩⟩
        simp at e0 e1 e2 e3 e4
        obtain ⟨rfl, rfl, rfl, rfl⟩ := e2
        subst e0 e1 e3 e4
        rfl

set_option maxRecDepth 100000 in
/-- A parameter of type []Step. -/
theorem open_steps {H : Type} {enc : TypeId × Value → H} {W : World} {base : Nat} {v : Value} {d : DataW H} {ps : List MemPlace}
    (hval : Value.okWide Tryz.prog W .any base 38 v) (h : DataW.Trod enc Tryz.prog W 0 (fun _ => true) true 38 v d ps) (hw : ∀ n ∈ d.weights Tryz.prog 38, n ≤ reachBytes) :
    ∃ (l : List St) (p : Option Addr) (cap : Nat), v = .slice p l.length cap ∧ SsIn W (fun _ => True) l p cap := by
  obtain ⟨a0, len, c, rfl⟩ := okWide_slice Tryz.underlying38 hval
  obtain ⟨fuel, hf⟩ := h
  obtain ⟨l, p, cap, e, hl⟩ := open_list (fun m _ => openT_all m) hf hw
  simp [Value.cells] at e
  obtain ⟨rfl, rfl, rfl⟩ := e
  exact ⟨l, _, _, rfl, hl⟩
end Go.Proofs.YtdhdjfkknfbmhaaGreatDoor
/- SyntaxSteps: the law returns true for all arguments. -/
namespace Go.Proofs.YtdhdjfkknfbmhaaGreatDoor.syntaxSteps
open Go.ChangeShapes Go.WideShapes Go.ChangeAt Go.RowKit Go.ChangeMaps

theorem own : ownKnob Tryz.prog.godebug = none := by kernel_rfl




theorem witness (os : Os) {H : Type} (enc : TypeId × Value → H) :
    ∃ (w : World) (tape : Tape) (i : Input), w.os = os ∧ (w.forCall tape i).Shaped Tryz.checked.prog ∧ i.vars = [] ∧ Input.okWide Tryz.checked.prog (w.forCall tape i) .any w.heap.size 6 i ∧
      ((Rows.syntaxStepsSpec.pre enc Tryz.checked.prog Tryz.f6 Rows.syntaxStepsRow.domain false (w.forCall tape i).memory i.args ∧ laidMetH Tryz.prog Rows.syntaxStepsRow.laid (w.forCall tape i).memory) ∧ sizedMet enc Tryz.checked.prog Tryz.f6 (OpenSpec.ofChange Rows.syntaxStepsSpec) false (w.forCall tape i).memory i.args) ∧ ({ modest := false } : Assume).holds Tryz.checked.prog (lone (Frame.enter Tryz.checked.prog 6 i.args .normal) [] (w.forCall tape i)) :=
  ChangeSpec.witness_shaped (enc := enc) (C := Tryz.checked) (os := os) (X := fun w _ => laidMetH Tryz.prog Rows.syntaxStepsRow.laid w) false (World.laidAll Tryz.prog os Rows.syntaxStepsRow.laid) #[.slice none 0 0] 8 (World.laidAll_os _ _ _)
    (World.shaped_of_ZipB (by kernel_rfl) (by kernel_rfl)) (by kernel_rfl) (by kernel_rfl) (by kernel_rfl)
    (by rw [MakeChecks.laidMetH_plain _ _ _ (by kernel_rfl)]; exact laidMet_laidAll _ (by kernel_rfl) (by kernel_rfl))

set_option maxHeartbeats 1000000 in
set_option maxRecDepth 100000 in
theorem lifted (os : Os) (started : os.Started) (H : Type) (enc : TypeId × Value → H) (F : Stop.Interp) :
    ReturnsInHanded {} Tryz.checked os 6 .any ((OpenSpec.ofChange Rows.syntaxStepsSpec).preRow enc Tryz.prog Tryz.f6 Rows.syntaxStepsRow.domain false Rows.syntaxStepsRow.laid)
      (((OpenSpec.ofChange Rows.syntaxStepsSpec).at F).post enc Tryz.prog Tryz.f6 false true false false) := by
  refine returnsInHanded_of_row (C := Tryz.checked) (s := OpenSpec.ofChange Rows.syntaxStepsSpec) own started (by kernel_rfl) Tryz.func6 (witness os enc) ?_
  intro W base args ds gs before hval0 hW _ _ hsz0 hL hsh _
  have hsz : (DataW.weightsEach Tryz.prog (Tryz.f6.params.toList ++ (OpenSpec.ofChange Rows.syntaxStepsSpec).bare.plain.varTypes Tryz.prog) (ds ++ gs)).all (· ≤ reachBytes) = true := hsz0
  clear hsz0
  have hval : ∀ (j : Nat) t v, Tryz.f6.params[j]? = some t → args[j]? = some v → Value.okWide Tryz.prog W .any base t v := hval0
  have hW' := hW
  obtain ⟨p, q, hA0, hV0, rfl, hfz, hnd⟩ := hW
  have hA : DataW.TrodAll enc Tryz.prog W 0 (fun _ => true) true Tryz.f6.params.toList args.toList ds p := hA0
  have hV : DataW.TrodVars enc Tryz.prog W (fun _ => true) [] gs q := hV0
  rw [Tryz.params6] at hA hval hsz
  obtain ⟨v0, d0, rfl, rfl, h0⟩ := trodAll_one hA
  obtain ⟨rfl, rfl⟩ := trodVars_none hV
  have h0k := h0
  have sz0 : ∀ n ∈ d0.weights Tryz.prog 38, n ≤ reachBytes := fun n hn => by
    have := List.all_eq_true.1 hsz n (DataW.weights_mem_each (j := 0) (t := 38) (d := d0) rfl rfl n hn)
    simpa using this
  obtain ⟨u0, r0, c0, rfl, s0⟩ := open_steps (hval 0 38 v0 rfl rfl) h0 sz0
  clear hA0 hV0 hval0
  simp only [List.append_nil] at hW'
  have lt0 : ∀ y ∈ p, y.block < W.heap.size := fun y hy => by simpa using hW'.lt y (by simp [hy])
  refine (walk W (of_laid hL hsh) u0 r0 c0 _ s0).mono fun e W' ⟨he, hg⟩ => ?_
  subst he
  exact ⟨_, rfl, _, _, _, [], _, [], hW', trodAll_mk1 (shut_bool Tryz.underlying4 _), trodAll_mk1 (Below.trod laidOut (by kernel_rfl) (of_decide_eq_true (by kernel_rfl)) h0k hg lt0), rfl, hg.frame _, fun h => by cases h⟩

theorem over : Rows.SyntaxStepsSaid :=
  OpenClaim.holds_of_cond 6 Tryz.f6 rfl rfl rfl rfl rfl rfl rfl ⟨rfl, rfl, rfl, rfl, rfl⟩ rfl rfl rfl rfl rfl (by kernel_rfl) Tryz.func6 (by kernel_rfl)
    (of_decide_eq_true (by kernel_rfl)) (by unfold Func.isWrapper; first | (rw [if_pos (by decide +kernel)]; kernel_rfl) | (rw [if_neg (by decide +kernel)]; exact ⟨rfl, rfl⟩))
    (fun os started H enc _ F0 => by rw [OpenClaim.pre_eq_preRow]; exact lifted os started H enc F0)

/-- THE STATEMENT: the tied card. -/
theorem proved : Rows.SyntaxStepsCardSaid :=
  Claim7.holds_tied_plain_at .later [] Rows.syntaxStepsCard.laidKinds true Rows.syntaxStepsCard.stood.harness true
    over (fun _ h => by cases h) (by kernel_rfl) (fun _ h => by cases h) syntaxSteps_row_tie rfl ⟨rfl, rfl⟩ (by kernel_rfl) rfl
    (fun f fn hf hfn => by
      obtain rfl : f = 6 := Option.some.inj ((show Tryz.prog.funcNamed "stopwatch/stopwatchlaw06.SyntaxSteps" = some 6 by kernel_rfl).symm.trans hf) |>.symm
      obtain rfl : fn = Tryz.f6 := (Option.some.inj (Tryz.func6.symm.trans hfn)).symm
      exact ⟨by kernel_rfl, fun j t ht => by
        rw [Tryz.params6] at ht
        have hm : t ∈ [38] := by simpa using Array.mem_of_getElem? ht
        have hall : ([38].all fun u => !Tryz.prog.wantsStandIn u) = true := by kernel_rfl
        exact (show Tryz.prog.wantsStandIn t = false by simpa using List.all_eq_true.1 hall t hm)⟩)
    (by kernel_rfl)
#print axioms proved
end Go.Proofs.YtdhdjfkknfbmhaaGreatDoor.syntaxSteps
