/- Steps: each parser leaves no more than there was; what memory holds of them. -/
import Derived.Test.YtdhdjfkknfbmhaaGreatDoorSSt
namespace Go.Proofs.YtdhdjfkknfbmhaaGreatDoor
open Go.RowKit

def Lt1 {α : Type} (p : P α) : Prop := ∀ l a r, p l = .ok a r → r.length < l.length
theorem Lt1.less {α : Type} {p : P α} (h : Lt1 p) : Less p := fun l a r hx => Nat.le_of_lt (h l a r hx)
theorem sees_tail {s : Bs} {l : List Tk} (h : seesS s l = true) : l.tail.length < l.length := by
  cases l with
  | nil => simp [seesS] at h
  | cons t r => simp
theorem choose_lt (ts : List Bs) : Lt1 (chooseS ts) := by
  intro l a r h
  unfold chooseS at h
  split at h
  · cases h
  · rename_i j hj
    obtain ⟨s, _, hs⟩ := idxS_sees _ _ _ hj
    cases h
    exact sees_tail hs
theorem by_lt : Lt1 byS := by
  intro l a r h
  obtain ⟨i, r1, h1, h2⟩ := bind_ok h
  obtain ⟨_, h3, _⟩ := map_ok h2
  have a1 := choose_lt _ _ _ _ h1
  have a2 := expect_less _ _ _ _ h3
  omega
theorem block_less {g : P (List St)} (hg : Less g) : Less (blockS g) := by
  intro l a r h
  obtain ⟨_, r1, h1, h2⟩ := bind_ok h
  obtain ⟨x, r2, h3, h4⟩ := bind_ok h2
  obtain ⟨_, h5, _⟩ := map_ok h4
  have a1 := expect_less _ _ _ _ h1
  have a2 := hg _ _ _ h3
  have a3 := expect_less _ _ _ _ h5
  omega
theorem step_lt {g : Option (P (List St))} (hg : ∀ p, g = some p → Less p) : Lt1 (stepWith g) := by
  intro l a r h
  unfold stepWith at h
  split at h
  · rename_i hs
    have a0 := sees_tail hs
    split at h
    · cases h
    · rename_i p
      have hp := hg p rfl
      obtain ⟨c, r1, h1, h2⟩ := bind_ok h
      obtain ⟨th, r2, h3, h4⟩ := bind_ok h2
      have a1 := cond_less 16 _ _ _ h1
      have a2 := block_less hp _ _ _ h3
      split at h4
      · obtain ⟨el, h5, _⟩ := map_ok h4
        have a3 := block_less hp _ _ _ h5
        rw [List.length_tail] at a3
        omega
      · cases h4; omega
  · exact by_lt _ _ _ h
theorem moreSteps_less {g : P St} (hg : Lt1 g) : ∀ (f : Nat) (l : List Tk) (acc a : List St) (r : List Tk), moreStepsS g f l acc = .ok a r → r.length ≤ l.length
  | 0, l, acc, a, r, h => by cases h; exact Nat.le_refl _
  | f + 1, l, acc, a, r, h => by
    rw [moreStepsS] at h
    split at h
    · obtain ⟨c, r1, h1, h2⟩ := bind_ok h
      have a1 := hg _ _ _ h1
      have a2 := moreSteps_less hg f _ _ _ _ h2
      omega
    · cases h; exact Nat.le_refl _
theorem stepsOf_less {g : P St} (hg : Lt1 g) : Less (stepsOf g) := by
  intro l a r h
  obtain ⟨x, r1, h1, h2⟩ := bind_ok h
  have a1 := hg _ _ _ h1
  have a2 := moreSteps_less hg _ _ _ _ _ h2
  omega
theorem step0_lt : Lt1 (stepWith none) := step_lt (by intro p h; cases h)
theorem steps_less : ∀ lv, Less (stepsS lv)
  | 0 => stepsOf_less step0_lt
  | lv + 1 => stepsOf_less (step_lt (by intro p h; cases h; exact steps_less lv))
theorem stepSS_lt (lv : Nat) : Lt1 (stepWith (some (stepsS lv))) := step_lt (by intro p h; cases h; exact steps_less lv)
theorem idx_any_iff (ts : List Bs) (l : List Tk) : decide ((0 : Int) ≤ idxV (idxS ts l)) = ts.any fun s => seesS s l := by
  induction ts with
  | nil => rfl
  | cons s ts ih =>
    rw [idxS, List.any_cons]
    cases hs : seesS s l with
    | true => rw [if_pos rfl]; simp [idxV]
    | false =>
      rw [if_neg (by decide), Bool.false_or, ← ih]
      cases idxS ts l with
      | none => rfl
      | some j =>
        show decide ((0 : Int) ≤ ((j + 1 : Nat) : Int)) = decide ((0 : Int) ≤ (j : Int))
        rw [decide_eq_true (show (0 : Int) ≤ ((j + 1 : Nat) : Int) by omega), decide_eq_true (show (0 : Int) ≤ (j : Int) by omega)]

/-- The variables that steps read stand. -/
structure GlS (w : World) : Prop where
  e : GlE w
  cr : ∀ i, i < 5 → w.cell? ⟨1, i, none⟩ = some (.int .i64 ((i : Int) + 1))
theorem GlS.bel {w w' : World} (h : GlS w) (hb : Below w.heap.size w w') : GlS w' :=
  ⟨h.e.bel hb, fun i hi => (hb.cell (p := ⟨1, i, none⟩) (show 1 < w.heap.size by have := h.e.size; omega)).trans (h.cr i hi)⟩
theorem GlS.kp {w w' : World} {pb : Nat} (h : GlS w) (hk : Kp w w' pb) (hp : 12 ≤ pb) : GlS w' :=
  ⟨h.e.kp hk hp, fun i hi => (World.cell?_of_block (a := ⟨1, i, none⟩) (hk.block 1 (by have := h.e.size; omega) (by omega))).trans (h.cr i hi)⟩

def sV (s : St) (x : Loc) : Value := .agg (cellsS s x).toArray
/-- What a parser of a step comes to. -/
def EndsS (w : World) (pb tb off cap : Nat) (M : Nat → Value) (L : List Tk) (T : PR St) (e : Ending) (w' : World) : Prop :=
  match T with
  | .ok s r => ∃ x, e = .returned (sV s x) ∧ StIn w' (fun b => w.heap.size ≤ b) s x ∧ Kp w w' pb ∧ ∃ q, L.drop q = r ∧ Psr w' pb tb off cap M L q
  | .err a x => e = .panicked (failV a x) ∧ Kp w w' pb
/-- What a parser of steps comes to. -/
def EndsT (w : World) (pb tb off cap : Nat) (M : Nat → Value) (L : List Tk) (T : PR (List St)) (e : Ending) (w' : World) : Prop :=
  match T with
  | .ok ss r => ∃ p k, e = .returned (.slice p ss.length k) ∧ SsIn w' (fun b => w.heap.size ≤ b) ss p k ∧ Kp w w' pb ∧ ∃ q, L.drop q = r ∧ Psr w' pb tb off cap M L q
  | .err a x => e = .panicked (failV a x) ∧ Kp w w' pb

/-- One text laid anew. -/
theorem STs.one (w : World) {pb : Nat} (h : pb < w.heap.size) (s : Bs) : STs (w.alloc (.cells #[.string (S s)] 9)) pb (some ⟨w.heap.size, 0, none⟩) [s] := by
  refine fun _ => ⟨_, _, rfl, by omega, by simp, fun j hj => ?_⟩
  match j, hj with
  | 0, _ => simp [go_sem]
theorem expect1_any (s : Bs) (hs : s.length ≤ 1000) (w : World) (pb tb off cap : Nat) (M : Nat → Value) (L : List Tk) (q : Nat) (h : Psr w pb tb off cap M L q) :
    Calls Tryz.prog 64 #[.pointer (some ⟨pb, 0, none⟩), .slice (some ⟨w.heap.size, 0, none⟩) 1 1] (w.alloc (.cells #[.string (S s)] 9)) fun e w' => Ends0 w pb tb off cap M L (expectS [s] (L.drop q)) e w' := by
  have hB := (Below.refl w.heap.size w).alloc (Nat.le_refl _) (.cells #[.string (S s)] 9)
  refine (expect_any [s] (by simpa using hs) (by simp) _ 1 _ pb tb off cap M L q (h.bel hB (Nat.le_refl _)) (STs.one w h.lt s)).mono ?_
  intro e w' he
  have hk := Kp.ofBelow (sb := pb) hB (Nat.le_refl _)
  revert he
  cases expectS [s] (L.drop q) with
  | err a x => exact fun he => ⟨he.1, hk.trans he.2⟩
  | ok u r => exact fun he => ⟨he.1, hk.trans he.2.1, he.2.2⟩

set_option maxHeartbeats 4000000 in
set_option maxRecDepth 100000 in
theorem block_any (G : P (List St)) (d : Int) (w : World) (pb tb off cap : Nat) (M : Nat → Value) (L : List Tk) (i : Nat) (h : Psr w pb tb off cap M L i) (hG : GlS w)
    (hS : ∀ wx q, GlS wx → Psr wx pb tb off cap M L q → Calls Tryz.prog 33 #[.pointer (some ⟨pb, 0, none⟩), .int .i64 d] wx fun e w' => EndsT wx pb tb off cap M L (G (L.drop q)) e w') :
    Calls Tryz.prog 85 #[.pointer (some ⟨pb, 0, none⟩), .int .i64 d] w fun e w' => EndsT w pb tb off cap M L (blockS G (L.drop i)) e w' := by
  have HG0 := Lib.hid hG
  have h9 := h.h9
  have hpb0 := h.lt
  have HX : Hid (∀ s : Bs, s.length ≤ 1000 → ∀ wx q, Psr wx pb tb off cap M L q → Calls Tryz.prog 64 #[.pointer (some ⟨pb, 0, none⟩), .slice (some ⟨wx.heap.size, 0, none⟩) 1 1] (wx.alloc (.cells #[.string (S s)] 9)) fun e w' => Ends0 wx pb tb off cap M L (expectS [s] (L.drop q)) e w') := Lib.hid fun s hs wx q hx => expect1_any s hs wx pb tb off cap M L q hx
  have HS : Hid (∀ wx q, Kp w wx pb → Psr wx pb tb off cap M L q → Calls Tryz.prog 33 #[.pointer (some ⟨pb, 0, none⟩), .int .i64 d] wx fun e w' => EndsT wx pb tb off cap M L (G (L.drop q)) e w') := Lib.hid fun wx q hk hx => hS wx q (HG0.out.kp hk h9) hx
  have HX0 := Lib.hid (HX.out [123] (by decide) _ i h)
  obtain ⟨R, hR⟩ : ∃ R, blockS G (L.drop i) = R := ⟨_, rfl⟩
  rw [hR]
  obtain ⟨T, hT⟩ : ∃ T, expectS [[123]] (L.drop i) = T := ⟨_, rfl⟩
  have HR : Hid ((T.bind fun _ r => (G r).bind fun x r => (expectS [[125]] r).map fun _ => x) = R) := Lib.hid (by rw [← hR, ← hT]; rfl)
  rw [hT] at HX0
  clear h hG hS hR hT HG0
  go_enter Tryz.func85, Tryz.ntmps85
  go_wp2_with fail
  go_at_call 64
  refine HX0.out.mono ?_
  clear HX0
  intro e w1 he
  cases T with
  | err a x =>
    obtain ⟨rfl, hk⟩ := he
    have hRe := HR.out
    subst hRe
    go_wp2_with fail
    exact ⟨rfl, rfl, hk⟩
  | ok u r =>
    obtain ⟨rfl, hk, q, rfl, hp⟩ := he
    have HK1 := Lib.hid hk
    have HP1 := Lib.hid hp
    obtain ⟨T, hT⟩ : ∃ T, G (L.drop q) = T := ⟨_, rfl⟩
    have HR1 : Hid ((T.bind fun x r => (expectS [[125]] r).map fun _ => x) = R) := Lib.hid (by rw [← HR.out, ← hT]; rfl)
    have HS1 := Lib.hid (HS.out w1 q hk hp)
    rw [hT] at HS1
    clear hk hp hT HR HS
    go_wp2_with fail
    go_at_call 33
    refine HS1.out.mono ?_
    clear HS1
    intro e w2 he
    cases T with
    | err a x =>
      obtain ⟨rfl, hk⟩ := he
      have hRe := HR1.out
      subst hRe
      go_wp2_with fail
      exact ⟨rfl, rfl, HK1.out.trans hk⟩
    | ok ss r =>
      obtain ⟨p, k, rfl, hc, hk, q2, rfl, hp⟩ := he
      have hs1 := HK1.out.size
      have HK2 := Lib.hid (HK1.out.trans hk)
      have HC2 := Lib.hid (hc.mono (Q' := fun b => w.heap.size ≤ b) fun b hb => by omega)
      have hpb := hp.lt
      obtain ⟨T, hT⟩ : ∃ T, expectS [[125]] (L.drop q2) = T := ⟨_, rfl⟩
      have HX2 := Lib.hid (HX.out [125] (by decide) w2 q2 hp)
      rw [hT] at HX2
      have HR2 : Hid ((T.map fun _ => ss) = R) := Lib.hid (by rw [← HR1.out, ← hT]; rfl)
      have hpw : pb < w1.heap.size := HP1.out.lt
      have hbk := hk.size
      clear hk hp hT hc HK1 HP1 HR1 HX
      go_wp2_with fail
      go_at_call 64
      refine HX2.out.mono ?_
      clear HX2
      intro e w3 he
      cases T with
      | err a x =>
        obtain ⟨rfl, hk⟩ := he
        have hRe := HR2.out
        subst hRe
        go_wp2_with fail
        exact ⟨rfl, rfl, HK2.out.trans hk⟩
      | ok u r =>
        obtain ⟨rfl, hk, q3, rfl, hp⟩ := he
        have hRe := HR2.out
        subst hRe
        have HE : Hid (EndsT w pb tb off cap M L (.ok ss (L.drop q3)) (.returned (.slice p ss.length k)) w3) := Lib.hid ⟨p, k, rfl, HC2.out.keep hk.size (fun b hb hl => hk.block b hl (by omega)), HK2.out.trans hk, q3, rfl, hp⟩
        clear hk hp
        go_wp2_with fail
        go_ret
        exact HE.out
end Go.Proofs.YtdhdjfkknfbmhaaGreatDoor
