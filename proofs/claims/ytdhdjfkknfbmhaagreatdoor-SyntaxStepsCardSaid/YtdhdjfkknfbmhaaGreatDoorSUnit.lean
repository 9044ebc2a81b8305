/- unit; the induction over the levels. -/
import Derived.Test.YtdhdjfkknfbmhaaGreatDoorSCond2
namespace Go.Proofs.YtdhdjfkknfbmhaaGreatDoor
open Go.RowKit

theorem enter_no (s : Bs) (hs : s.length ≤ 1000) (d : Nat) (hd : d ≤ 1000) (w : World) (pb tb off cap : Nat) (M : Nat → Value) (L : List Tk) (i : Nat) (h : Psr w pb tb off cap M L i) (hn : seesS s (L.drop i) = false) :
    Calls Tryz.prog 134 #[.pointer (some ⟨pb, 0, none⟩), .string (S s), .int .i64 d] w fun e w' => e = .returned (.bool false) ∧ Psr w' pb tb off cap M L i ∧ Kp w w' pb := by
  have := enter_any s hs d hd w pb tb off cap M L i h
  simpa [hn] using this
theorem enter_yes (s : Bs) (hs : s.length ≤ 1000) (d : Nat) (hd : d < 16) (w : World) (pb tb off cap : Nat) (M : Nat → Value) (L : List Tk) (i : Nat) (h : Psr w pb tb off cap M L i) (hn : seesS s (L.drop i) = true) :
    Calls Tryz.prog 134 #[.pointer (some ⟨pb, 0, none⟩), .string (S s), .int .i64 d] w fun e w' => e = .returned (.bool true) ∧ Psr w' pb tb off cap M L (i + 1) ∧ Kp w w' pb := by
  have := enter_any s hs d (by omega) w pb tb off cap M L i h
  simpa [hn, show ¬ 16 ≤ d by omega] using this
theorem enter_deep (s : Bs) (hs : s.length ≤ 1000) (d : Nat) (hd : 16 ≤ d) (hd2 : d ≤ 1000) (w : World) (pb tb off cap : Nat) (M : Nat → Value) (L : List Tk) (i : Nat) (h : Psr w pb tb off cap M L i) (hn : seesS s (L.drop i) = true) :
    Calls Tryz.prog 134 #[.pointer (some ⟨pb, 0, none⟩), .string (S s), .int .i64 d] w fun e w' => e = .panicked (failV (atS (L.drop i)) 2) ∧ Below w.heap.size w w' := by
  have := enter_any s hs d hd2 w pb tb off cap M L i h
  simpa [hn, hd] using this
theorem numberS_bounds {l : List Tk} {n : Int} {r : List Tk} (h : numberS l = .ok n r) : 0 ≤ n ∧ n ≤ 1125899906842624 := by
  unfold numberS at h
  split at h
  · rename_i m hm
    cases h
    unfold numV at hm
    split at hm
    · split at hm
      · split at hm
        · cases hm; assumption
        · cases hm
      · cases hm
    · cases hm
  · cases h
/-- Words laid anew. -/
theorem STs.vars (w : World) {pb : Nat} (h : pb < w.heap.size) : STs (w.alloc (.cells #[.string ⟨#[]⟩, .string (S wDistance), .string (S wField), .string (S wShort)] 9)) pb (some ⟨w.heap.size, 0, none⟩) varWords := by
  refine fun _ => ⟨_, _, rfl, by omega, by simp, fun j hj => ?_⟩
  match j, hj with
  | 0, _ => simp [go_sem]; rfl
  | 1, _ => simp [go_sem]; rfl
  | 2, _ => simp [go_sem]; rfl
  | 3, _ => simp [go_sem]; rfl
theorem STs.cmps (w : World) {pb : Nat} (h : pb < w.heap.size) : STs (w.alloc (.cells #[.string (S [62, 61]), .string (S [62]), .string (S [60, 61]), .string (S [60]), .string (S [61])] 9)) pb (some ⟨w.heap.size, 0, none⟩) cmpSigns := by
  refine fun _ => ⟨_, _, rfl, by omega, by simp, fun j hj => ?_⟩
  match j, hj with
  | 0, _ => simp [go_sem]; rfl
  | 1, _ => simp [go_sem]; rfl
  | 2, _ => simp [go_sem]; rfl
  | 3, _ => simp [go_sem]; rfl
  | 4, _ => simp [go_sem]; rfl

set_option maxHeartbeats 4000000 in
set_option maxRecDepth 100000 in
theorem comp_any (d : Nat) (hd : d ≤ 1000) (w : World) (pb tb off cap : Nat) (M : Nat → Value) (L : List Tk) (i : Nat) (h : Psr w pb tb off cap M L i) (hG : GlE w)
    (hn : seesS wNot (L.drop i) = false) (hp : seesS [40] (L.drop i) = false) :
    Calls Tryz.prog 97 #[.pointer (some ⟨pb, 0, none⟩), .int .i64 d] w fun e w' => EndsC w pb tb off cap M L (compS (L.drop i)) e w' := by
  have hA := (Below.refl w.heap.size w).alloc (Nat.le_refl _) (.cells #[.int .i64 0, .int .i64 0, .int .i64 0, .slice none 0 0] 49)
  have HZ0 := Lib.hid (Z4.new w)
  have HK0 := Lib.hid (Kp.ofBelow (sb := pb) hA (Nat.le_refl _))
  have HP0 := Lib.hid (h.bel hA (Nat.le_refl _))
  have HG0 := Lib.hid hG
  have hpb := h.lt
  have htb := h.tlt
  have h9 := h.h9
  have HN : Hid (∀ wx, Psr wx pb tb off cap M L i → Calls Tryz.prog 134 #[.pointer (some ⟨pb, 0, none⟩), .string (S wNot), .int .i64 d] wx fun e w' => e = .returned (.bool false) ∧ Psr w' pb tb off cap M L i ∧ Kp wx w' pb) := Lib.hid fun wx hx => enter_no wNot (by decide) d hd wx pb tb off cap M L i hx hn
  have HO : Hid (∀ wx, Psr wx pb tb off cap M L i → Calls Tryz.prog 134 #[.pointer (some ⟨pb, 0, none⟩), .string (S [40]), .int .i64 d] wx fun e w' => e = .returned (.bool false) ∧ Psr w' pb tb off cap M L i ∧ Kp wx w' pb) := Lib.hid fun wx hx => enter_no [40] (by decide) d hd wx pb tb off cap M L i hx hp
  have HC1 : Hid (∀ wx, Psr wx pb tb off cap M L i → Calls Tryz.prog 123 #[.pointer (some ⟨pb, 0, none⟩), .slice (some ⟨wx.heap.size, 0, none⟩) 4 4] (wx.alloc (.cells #[.string ⟨#[]⟩, .string (S wDistance), .string (S wField), .string (S wShort)] 9)) fun e w' => EndsI (wx.alloc (.cells #[.string ⟨#[]⟩, .string (S wDistance), .string (S wField), .string (S wShort)] 9)) pb tb off cap M L (PR.map (fun (j : Nat) => ((j : Nat) : Int)) (chooseS varWords (L.drop i))) e w') := Lib.hid fun wx hx =>
    choose_any varWords (by decide) (by decide) _ 4 _ pb tb off cap M L i (hx.bel ((Below.refl wx.heap.size wx).alloc (Nat.le_refl _) _) (Nat.le_refl _)) (STs.vars wx hx.lt)
  have HC2 : Hid (∀ wx q, Psr wx pb tb off cap M L q → Calls Tryz.prog 123 #[.pointer (some ⟨pb, 0, none⟩), .slice (some ⟨wx.heap.size, 0, none⟩) 5 5] (wx.alloc (.cells #[.string (S [62, 61]), .string (S [62]), .string (S [60, 61]), .string (S [60]), .string (S [61])] 9)) fun e w' => EndsI (wx.alloc (.cells #[.string (S [62, 61]), .string (S [62]), .string (S [60, 61]), .string (S [60]), .string (S [61])] 9)) pb tb off cap M L (PR.map (fun (j : Nat) => ((j : Nat) : Int)) (chooseS cmpSigns (L.drop q))) e w') := Lib.hid fun wx q hx =>
    choose_any cmpSigns (by decide) (by decide) _ 5 _ pb tb off cap M L q (hx.bel ((Below.refl wx.heap.size wx).alloc (Nat.le_refl _) _) (Nat.le_refl _)) (STs.cmps wx hx.lt)
  have HM : Hid (∀ wx q, Kp w wx pb → Psr wx pb tb off cap M L q → Calls Tryz.prog 87 #[.pointer (some ⟨pb, 0, none⟩)] wx fun e w' => EndsI wx pb tb off cap M L (numberS (L.drop q)) e w') := Lib.hid fun wx q hk hx => number_any wx (HG0.out.kp hk h9) pb tb off cap M L q hx
  obtain ⟨T, hT⟩ : ∃ T, compS (L.drop i) = T := ⟨_, rfl⟩
  rw [hT]
  have HT := Lib.hid hT
  clear h hA hG hn hp hT HG0
  go_enter Tryz.func97, Tryz.ntmps97
  go_wp2_with fail
  go_at_call 134
  refine (HN.out _ HP0.out).mono ?_
  rintro e w1 ⟨rfl, hp1, hk1⟩
  have HP1 := Lib.hid hp1
  have HZ1 := Lib.hid (HZ0.out.kp hk1 (by omega))
  have HK1 := Lib.hid (HK0.out.trans hk1)
  clear hp1 hk1 HN HP0 HZ0 HK0
  go_wp2_with fail
  go_at_call 134
  refine (HO.out _ HP1.out).mono ?_
  rintro e w2 ⟨rfl, hp2, hk2⟩
  have HP2 := Lib.hid hp2
  have HZ2 := Lib.hid (HZ1.out.kp hk2 (by omega))
  have HK2 := Lib.hid (HK1.out.trans hk2)
  clear hp2 hk2 HO HP1 HZ1 HK1
  go_wp2_with fail
  go_at_call 123
  have hB2 := (Below.refl w2.heap.size w2).alloc (Nat.le_refl _) (.cells #[.string ⟨#[]⟩, .string (S wDistance), .string (S wField), .string (S wShort)] 9)
  have HZ3 := Lib.hid (HZ2.out.bel hB2 HZ2.out.lt)
  have HK3 := Lib.hid (HK2.out.trans (Kp.ofBelow (sb := pb) hB2 (Nat.le_refl _)))
  refine (HC1.out _ HP2.out).mono ?_
  clear hB2 HC1 HP2 HZ2 HK2
  intro e w4 he
  cases hx : chooseS varWords (L.drop i) with
  | err a x =>
    rw [hx] at he
    obtain ⟨rfl, hk⟩ := he
    have hTe : T = .err a x := by rw [← HT.out]; unfold compS; rw [hx]; rfl
    subst hTe
    clear hx
    go_wp2_with fail
    exact ⟨rfl, rfl, HK3.out.trans hk⟩
  | ok v r =>
    rw [hx] at he
    obtain ⟨rfl, hk4, q, hr, hp4⟩ := he
    have HP4 := Lib.hid hp4
    have HZ4 := Lib.hid (HZ3.out.kp hk4 (by omega))
    have HK4 := Lib.hid (HK3.out.trans hk4)
    have HT4 : Hid (((chooseS cmpSigns (L.drop q)).bind fun c l2 => (numberS l2).map (comparedS v c)) = T) := Lib.hid (by rw [← HT.out, hr]; unfold compS; rw [hx]; rfl)
    clear hk4 hp4 hr hx HT HZ3 HK3
    go_wp2_with fail
    go_at_call 123
    have hB4 := (Below.refl w4.heap.size w4).alloc (Nat.le_refl _) (.cells #[.string (S [62, 61]), .string (S [62]), .string (S [60, 61]), .string (S [60]), .string (S [61])] 9)
    have HZ5 := Lib.hid (HZ4.out.bel hB4 HZ4.out.lt)
    have HK5 := Lib.hid (HK4.out.trans (Kp.ofBelow (sb := pb) hB4 (Nat.le_refl _)))
    refine (HC2.out _ q HP4.out).mono ?_
    clear hB4 HC2 HP4 HZ4 HK4
    intro e w6 he
    cases hx : chooseS cmpSigns (L.drop q) with
    | err a x =>
      rw [hx] at he
      obtain ⟨rfl, hk⟩ := he
      have hTe : T = .err a x := by rw [← HT4.out, hx]; rfl
      subst hTe
      clear hx
      go_wp2_with fail
      exact ⟨rfl, rfl, HK5.out.trans hk⟩
    | ok c r =>
      rw [hx] at he
      obtain ⟨rfl, hk6, q6, hr, hp6⟩ := he
      have HP6 := Lib.hid hp6
      have HZ6 := Lib.hid (HZ5.out.kp hk6 (by omega))
      have HK6 := Lib.hid (HK5.out.trans hk6)
      have HT6 : Hid ((numberS (L.drop q6)).map (comparedS v c) = T) := Lib.hid (by rw [← HT4.out, hr, hx]; rfl)
      clear hk6 hp6 hr hx HT4 HZ5 HK5
      go_wp2_with fail
      go_at_call 87
      refine (HM.out _ q6 HK6.out HP6.out).mono ?_
      intro e w7 he
      cases hx : numberS (L.drop q6) with
      | err a x =>
        rw [hx] at he
        obtain ⟨rfl, hk⟩ := he
        have hTe : T = .err a x := by rw [← HT6.out, hx]; rfl
        subst hTe
        clear hx
        go_wp2_with fail
        exact ⟨rfl, rfl, HK6.out.trans hk⟩
      | ok n r =>
        obtain ⟨n0, n1⟩ := numberS_bounds hx
        rw [hx] at he
        obtain ⟨rfl, hk7, q7, hr, hp7⟩ := he
        have HP7 := Lib.hid hp7
        have HZ7 := Lib.hid (HZ6.out.kp hk7 (by omega))
        have HK7 := Lib.hid (HK6.out.trans hk7)
        have HCM := Lib.hid (compared_any v c n n0 n1 w7)
        obtain ⟨x, hxx⟩ : ∃ x, comparedS v c n = x := ⟨_, rfl⟩
        have hTe : T = .ok x (L.drop q7) := by rw [← HT6.out, hr, hx, ← hxx]; rfl
        subst hTe
        rw [hxx] at HCM
        clear hxx
        clear hk7 hp7 hr hx HT6 HZ6 HK6 HP6 HM
        go_wp2_with fail
        go_at_call 137
        refine HCM.out.mono ?_
        rintro e w8 ⟨p, k, rfl, hc, hb⟩
        have HP8 := Lib.hid (HP7.out.bel hb (Nat.le_refl _))
        have HK8 := Lib.hid (HK7.out.trans (Kp.ofBelow (sb := pb) hb (Nat.le_refl _)))
        have HZ8 := Lib.hid (HZ7.out.bel hb HZ7.out.lt)
        have hsz7 := HZ7.out.lt
        have HC8 := Lib.hid (hc.mono (Q' := fun b => w.heap.size + 1 ≤ b) fun b hb => by omega)
        clear hc hb HCM HP7 HK7 HZ7
        obtain ⟨u0, u1, u2, u3, z0, z1, z2, z3⟩ := HZ8.out.ex
        have f0 := HZ8.out.fz 0
        have f1 := HZ8.out.fz 1
        have f2 := HZ8.out.fz 2
        have f3 := HZ8.out.fz 3
        unfold cV
        go_wp2_with fail
        have HX := HZ8.out.put (.int .i64 x.k) (.int .i64 x.v) (.int .i64 x.n) (.slice p x.ps.length k)
        unfold put4 at HX
        obtain ⟨c0, c1, c2, c3⟩ := HX
        refine bodyPost_ret (v := .agg #[.int .i64 x.k, .int .i64 x.v, .int .i64 x.n, .slice p x.ps.length k]) ?_ rfl (put4_end hpb htb HP8.out HK8.out HC8.out _ _ _ _)
        simp [results, Tryz.results97, go_sem, c0, c1, c2, c3]

set_option maxHeartbeats 4000000 in
set_option maxRecDepth 100000 in
theorem unit_deep (d : Nat) (hd : 16 ≤ d) (hd2 : d ≤ 1000) (w : World) (pb tb off cap : Nat) (M : Nat → Value) (L : List Tk) (i : Nat) (h : Psr w pb tb off cap M L i) 
    (hn : seesS wNot (L.drop i) = true ∨ (seesS wNot (L.drop i) = false ∧ seesS [40] (L.drop i) = true)) :
    Calls Tryz.prog 97 #[.pointer (some ⟨pb, 0, none⟩), .int .i64 d] w fun e w' => EndsC w pb tb off cap M L (failS 2 (L.drop i)) e w' := by
  have hA := (Below.refl w.heap.size w).alloc (Nat.le_refl _) (.cells #[.int .i64 0, .int .i64 0, .int .i64 0, .slice none 0 0] 49)
  have HK0 := Lib.hid (Kp.ofBelow (sb := pb) hA (Nat.le_refl _))
  have HP0 := Lib.hid (h.bel hA (Nat.le_refl _))
  show Calls _ _ _ _ fun e w' => e = .panicked (failV (atS (L.drop i)) 2) ∧ Kp w w' pb
  rcases hn with hn | ⟨hn, hp⟩
  · have HN : Hid (∀ wx, Psr wx pb tb off cap M L i → Calls Tryz.prog 134 #[.pointer (some ⟨pb, 0, none⟩), .string (S wNot), .int .i64 d] wx fun e w' => e = .panicked (failV (atS (L.drop i)) 2) ∧ Below wx.heap.size wx w') := Lib.hid fun wx hx => enter_deep wNot (by decide) d hd hd2 wx pb tb off cap M L i hx hn
    clear h hA hn hd
    go_enter Tryz.func97, Tryz.ntmps97
    go_wp2_with fail
    go_at_call 134
    refine (HN.out _ HP0.out).mono ?_
    rintro e w1 ⟨rfl, hb⟩
    go_wp2_with fail
    exact ⟨rfl, rfl, HK0.out.trans (Kp.ofBelow hb (Nat.le_refl _))⟩
  · have HN : Hid (∀ wx, Psr wx pb tb off cap M L i → Calls Tryz.prog 134 #[.pointer (some ⟨pb, 0, none⟩), .string (S wNot), .int .i64 d] wx fun e w' => e = .returned (.bool false) ∧ Psr w' pb tb off cap M L i ∧ Kp wx w' pb) := Lib.hid fun wx hx => enter_no wNot (by decide) d hd2 wx pb tb off cap M L i hx hn
    have HO : Hid (∀ wx, Psr wx pb tb off cap M L i → Calls Tryz.prog 134 #[.pointer (some ⟨pb, 0, none⟩), .string (S [40]), .int .i64 d] wx fun e w' => e = .panicked (failV (atS (L.drop i)) 2) ∧ Below wx.heap.size wx w') := Lib.hid fun wx hx => enter_deep [40] (by decide) d hd hd2 wx pb tb off cap M L i hx hp
    clear h hA hn hd hp
    go_enter Tryz.func97, Tryz.ntmps97
    go_wp2_with fail
    go_at_call 134
    refine (HN.out _ HP0.out).mono ?_
    rintro e w1 ⟨rfl, hp1, hk1⟩
    have HP1 := Lib.hid hp1
    have HK1 := Lib.hid (HK0.out.trans hk1)
    clear hp1 hk1 HN HP0 HK0
    go_wp2_with fail
    go_at_call 134
    refine (HO.out _ HP1.out).mono ?_
    rintro e w2 ⟨rfl, hb⟩
    go_wp2_with fail
    exact ⟨rfl, rfl, HK1.out.trans (Kp.ofBelow hb (Nat.le_refl _))⟩

set_option maxHeartbeats 4000000 in
set_option maxRecDepth 100000 in
theorem unit_not (U : P Cd) (d : Nat) (hd : d < 16) (w : World) (pb tb off cap : Nat) (M : Nat → Value) (L : List Tk) (i : Nat) (h : Psr w pb tb off cap M L i) (hG : GlE w)
    (hn : seesS wNot (L.drop i) = true) (hU : ∀ wx q, GlE wx → Psr wx pb tb off cap M L q → Calls Tryz.prog 97 #[.pointer (some ⟨pb, 0, none⟩), .int .i64 ((d : Int) + 1)] wx fun e w' => EndsC wx pb tb off cap M L (U (L.drop q)) e w') :
    Calls Tryz.prog 97 #[.pointer (some ⟨pb, 0, none⟩), .int .i64 d] w fun e w' => EndsC w pb tb off cap M L ((U (L.drop i).tail).map negatedS) e w' := by
  have hA := (Below.refl w.heap.size w).alloc (Nat.le_refl _) (.cells #[.int .i64 0, .int .i64 0, .int .i64 0, .slice none 0 0] 49)
  have HZ0 := Lib.hid (Z4.new w)
  have HK0 := Lib.hid (Kp.ofBelow (sb := pb) hA (Nat.le_refl _))
  have HP0 := Lib.hid (h.bel hA (Nat.le_refl _))
  have HG0 := Lib.hid hG
  have hpb := h.lt
  have htb := h.tlt
  have h9 := h.h9
  have HN : Hid (∀ wx, Psr wx pb tb off cap M L i → Calls Tryz.prog 134 #[.pointer (some ⟨pb, 0, none⟩), .string (S wNot), .int .i64 d] wx fun e w' => e = .returned (.bool true) ∧ Psr w' pb tb off cap M L (i + 1) ∧ Kp wx w' pb) := Lib.hid fun wx hx => enter_yes wNot (by decide) d hd wx pb tb off cap M L i hx hn
  have HU : Hid (∀ wx q, Kp w wx pb → Psr wx pb tb off cap M L q → Calls Tryz.prog 97 #[.pointer (some ⟨pb, 0, none⟩), .int .i64 ((d : Int) + 1)] wx fun e w' => EndsC wx pb tb off cap M L (U (L.drop q)) e w') := Lib.hid fun wx q hk hx => hU wx q (HG0.out.kp hk h9) hx
  have hdi : (d : Int) < 16 := by omega
  rw [List.tail_drop]
  obtain ⟨T, hT⟩ : ∃ T, U (L.drop (i + 1)) = T := ⟨_, rfl⟩
  have HT := Lib.hid hT
  rw [hT]
  obtain ⟨R, hR⟩ : ∃ R, PR.map negatedS T = R := ⟨_, rfl⟩
  rw [hR]
  have HR := Lib.hid hR
  clear h hA hG hn hU HG0 hd hT hR
  go_enter Tryz.func97, Tryz.ntmps97
  go_wp2_with fail
  go_at_call 134
  refine (HN.out _ HP0.out).mono ?_
  rintro e w1 ⟨rfl, hp1, hk1⟩
  have HP1 := Lib.hid hp1
  have HZ1 := Lib.hid (HZ0.out.kp hk1 (by omega))
  have HK1 := Lib.hid (HK0.out.trans hk1)
  clear hp1 hk1 HN HP0 HZ0 HK0
  have HU1 := Lib.hid (HU.out _ (i + 1) HK1.out HP1.out)
  rw [HT.out] at HU1
  clear HU HT
  go_wp2_with fail
  go_at_call 97
  refine HU1.out.mono ?_
  intro e w2 he
  cases T with
  | err a x =>
    obtain ⟨rfl, hk⟩ := he
    have hRe := HR.out
    subst hRe
    go_wp2_with fail
    exact ⟨rfl, rfl, HK1.out.trans hk⟩
  | ok c r =>
    obtain ⟨p, k, rfl, hc, hk, q, rfl, hp⟩ := he
    have HP2 := Lib.hid hp
    have hsz := HZ1.out.lt
    have HZ2 := Lib.hid (HZ1.out.kp hk (by omega))
    have HK2 := Lib.hid (HK1.out.trans hk)
    have HNG := Lib.hid (negated_any c p k _ w2 (hc.mono (Q' := fun b => w.heap.size + 1 ≤ b) fun b hb => by omega))
    clear hc hk hp HU1 HZ1 HK1 HP1
    go_wp2_with fail
    go_at_call 136
    refine HNG.out.mono ?_
    rintro e w3 ⟨p', k', rfl, hc, hb⟩
    have HP3 := Lib.hid (HP2.out.bel hb (Nat.le_refl _))
    have HK3 := Lib.hid (HK2.out.trans (Kp.ofBelow (sb := pb) hb (Nat.le_refl _)))
    have HZ3 := Lib.hid (HZ2.out.bel hb HZ2.out.lt)
    have hsz2 := HZ2.out.lt
    have HC3 := Lib.hid (hc.mono (Q' := fun b => w.heap.size + 1 ≤ b) fun b hb => by rcases hb with hb | hb <;> omega)
    clear hc hb HNG HP2 HK2 HZ2
    obtain ⟨x, hx⟩ : ∃ x, negatedS c = x := ⟨_, rfl⟩
    have hRe : R = .ok x (L.drop q) := by rw [← HR.out, ← hx]; rfl
    subst hRe
    rw [hx] at HC3
    rw [hx]
    clear hx HR
    obtain ⟨u0, u1, u2, u3, z0, z1, z2, z3⟩ := HZ3.out.ex
    have f0 := HZ3.out.fz 0
    have f1 := HZ3.out.fz 1
    have f2 := HZ3.out.fz 2
    have f3 := HZ3.out.fz 3
    unfold cV
    go_wp2_with fail
    have HX := HZ3.out.put (.int .i64 x.k) (.int .i64 x.v) (.int .i64 x.n) (.slice p' x.ps.length k')
    unfold put4 at HX
    obtain ⟨c0, c1, c2, c3⟩ := HX
    refine bodyPost_ret (v := .agg #[.int .i64 x.k, .int .i64 x.v, .int .i64 x.n, .slice p' x.ps.length k']) ?_ rfl (put4_end hpb htb HP3.out HK3.out HC3.out _ _ _ _)
    simp [results, Tryz.results97, go_sem, c0, c1, c2, c3]

theorem STs.close (w : World) {pb : Nat} (h : pb < w.heap.size) : STs (w.alloc (.cells #[.string (S [41])] 9)) pb (some ⟨w.heap.size, 0, none⟩) [[41]] := by
  refine fun _ => ⟨_, _, rfl, by omega, by simp, fun j hj => ?_⟩
  match j, hj with
  | 0, _ => simp [go_sem]

set_option maxHeartbeats 4000000 in
set_option maxRecDepth 100000 in
theorem unit_par (U : P Cd) (hless : Less U) (d : Nat) (hd : d < 16) (w : World) (pb tb off cap : Nat) (M : Nat → Value) (L : List Tk) (i : Nat) (h : Psr w pb tb off cap M L i) (hG : GlE w)
    (hn : seesS wNot (L.drop i) = false) (hp : seesS [40] (L.drop i) = true) (hU : ∀ wx q, GlE wx → Psr wx pb tb off cap M L q → Calls Tryz.prog 97 #[.pointer (some ⟨pb, 0, none⟩), .int .i64 ((d : Int) + 1)] wx fun e w' => EndsC wx pb tb off cap M L (U (L.drop q)) e w') :
    Calls Tryz.prog 97 #[.pointer (some ⟨pb, 0, none⟩), .int .i64 d] w fun e w' => EndsC w pb tb off cap M L ((condOf U (L.drop i).tail).bind fun c r => (expectS [[41]] r).map fun _ => c) e w' := by
  have hA := (Below.refl w.heap.size w).alloc (Nat.le_refl _) (.cells #[.int .i64 0, .int .i64 0, .int .i64 0, .slice none 0 0] 49)
  have HZ0 := Lib.hid (Z4.new w)
  have HK0 := Lib.hid (Kp.ofBelow (sb := pb) hA (Nat.le_refl _))
  have HP0 := Lib.hid (h.bel hA (Nat.le_refl _))
  have HG0 := Lib.hid hG
  have hpb := h.lt
  have htb := h.tlt
  have h9 := h.h9
  have HN : Hid (∀ wx, Psr wx pb tb off cap M L i → Calls Tryz.prog 134 #[.pointer (some ⟨pb, 0, none⟩), .string (S wNot), .int .i64 d] wx fun e w' => e = .returned (.bool false) ∧ Psr w' pb tb off cap M L i ∧ Kp wx w' pb) := Lib.hid fun wx hx => enter_no wNot (by decide) d (by omega) wx pb tb off cap M L i hx hn
  have HO : Hid (∀ wx, Psr wx pb tb off cap M L i → Calls Tryz.prog 134 #[.pointer (some ⟨pb, 0, none⟩), .string (S [40]), .int .i64 d] wx fun e w' => e = .returned (.bool true) ∧ Psr w' pb tb off cap M L (i + 1) ∧ Kp wx w' pb) := Lib.hid fun wx hx => enter_yes [40] (by decide) d hd wx pb tb off cap M L i hx hp
  have HU : Hid (∀ wx q, Kp w wx pb → Psr wx pb tb off cap M L q → Calls Tryz.prog 36 #[.pointer (some ⟨pb, 0, none⟩), .int .i64 ((d : Int) + 1)] wx fun e w' => EndsC wx pb tb off cap M L (condOf U (L.drop q)) e w') := Lib.hid fun wx q hk hx => condition_any U hless ((d : Int) + 1) wx pb tb off cap M L q hx (HG0.out.kp hk h9) hU
  have HX : Hid (∀ wx q, Psr wx pb tb off cap M L q → Calls Tryz.prog 64 #[.pointer (some ⟨pb, 0, none⟩), .slice (some ⟨wx.heap.size, 0, none⟩) 1 1] (wx.alloc (.cells #[.string (S [41])] 9)) fun e w' => Ends0 (wx.alloc (.cells #[.string (S [41])] 9)) pb tb off cap M L (expectS [[41]] (L.drop q)) e w') := Lib.hid fun wx q hx =>
    expect_any [[41]] (by decide) (by decide) _ 1 _ pb tb off cap M L q (hx.bel ((Below.refl wx.heap.size wx).alloc (Nat.le_refl _) _) (Nat.le_refl _)) (STs.close wx hx.lt)
  have hdi : (d : Int) < 16 := by omega
  rw [List.tail_drop]
  obtain ⟨T, hT⟩ : ∃ T, condOf U (L.drop (i + 1)) = T := ⟨_, rfl⟩
  have HT := Lib.hid hT
  rw [hT]
  obtain ⟨R, hR⟩ : ∃ R, (T.bind fun c r => (expectS [[41]] r).map fun _ => c) = R := ⟨_, rfl⟩
  rw [hR]
  have HR := Lib.hid hR
  clear h hA hG hn hp hU HG0 hd hT hR
  go_enter Tryz.func97, Tryz.ntmps97
  go_wp2_with fail
  go_at_call 134
  refine (HN.out _ HP0.out).mono ?_
  rintro e w1 ⟨rfl, hp1, hk1⟩
  have HP1 := Lib.hid hp1
  have HZ1 := Lib.hid (HZ0.out.kp hk1 (by omega))
  have HK1 := Lib.hid (HK0.out.trans hk1)
  clear hp1 hk1 HN HP0 HZ0 HK0
  go_wp2_with fail
  go_at_call 134
  refine (HO.out _ HP1.out).mono ?_
  rintro e w2 ⟨rfl, hp2, hk2⟩
  have HP2 := Lib.hid hp2
  have HZ2 := Lib.hid (HZ1.out.kp hk2 (by omega))
  have HK2 := Lib.hid (HK1.out.trans hk2)
  clear hp2 hk2 HO HP1 HZ1 HK1
  have HU1 := Lib.hid (HU.out _ (i + 1) HK2.out HP2.out)
  rw [HT.out] at HU1
  clear HU HT
  go_wp2_with fail
  go_at_call 36
  refine HU1.out.mono ?_
  intro e w3 he
  cases T with
  | err a x =>
    obtain ⟨rfl, hk⟩ := he
    have hRe := HR.out
    subst hRe
    go_wp2_with fail
    exact ⟨rfl, rfl, HK2.out.trans hk⟩
  | ok c r =>
    obtain ⟨p, k, rfl, hc, hk, q, rfl, hp⟩ := he
    have hsz := HZ2.out.lt
    have HZ3 := Lib.hid (HZ2.out.kp hk (by omega))
    have HK3 := Lib.hid (HK2.out.trans hk)
    have HC3 := Lib.hid (hc.mono (Q' := fun b => w.heap.size + 1 ≤ b) fun b hb => by omega)
    have HP3 := Lib.hid hp
    clear hc hk hp HU1 HZ2 HK2 HP2
    obtain ⟨T, hT⟩ : ∃ T, expectS [[41]] (L.drop q) = T := ⟨_, rfl⟩
    have HT := Lib.hid hT
    have HR2 : Hid ((T.map fun _ => c) = R) := Lib.hid (by rw [← HR.out, ← hT]; rfl)
    clear hT HR
    obtain ⟨u0, u1, u2, u3, z0, z1, z2, z3⟩ := HZ3.out.ex
    have f0 := HZ3.out.fz 0
    have f1 := HZ3.out.fz 1
    have f2 := HZ3.out.fz 2
    have f3 := HZ3.out.fz 3
    have HP4 := Lib.hid (HP3.out.same (w' := put4 w3 w.heap.size (.int .i64 c.k) (.int .i64 c.v) (.int .i64 c.n) (.slice p c.ps.length k)) (Nat.le_of_eq (put4_size _ _ _ _).symm) (put4_other (by omega) _ _ _ _) (put4_other (by omega) _ _ _ _))
    have HK4 : Hid (Kp w (put4 w3 w.heap.size (.int .i64 c.k) (.int .i64 c.v) (.int .i64 c.n) (.slice p c.ps.length k)) pb) := Lib.hid ((((HK3.out.set (Nat.le_refl _) 0 _).set (Nat.le_refl _) 1 _).set (Nat.le_refl _) 2 _).set (Nat.le_refl _) 3 _)
    have HC4 := Lib.hid (HC3.out.keep (w' := put4 w3 w.heap.size (.int .i64 c.k) (.int .i64 c.v) (.int .i64 c.n) (.slice p c.ps.length k)) (Nat.le_of_eq (put4_size _ _ _ _).symm) fun b hb _ => put4_other (by omega) _ _ _ _)
    have HX4 := Lib.hid (HZ3.out.put (.int .i64 c.k) (.int .i64 c.v) (.int .i64 c.n) (.slice p c.ps.length k))
    have HF4 : Hid (∀ o, (put4 w3 w.heap.size (.int .i64 c.k) (.int .i64 c.v) (.int .i64 c.n) (.slice p c.ps.length k)).frozen? ⟨w.heap.size, o, none⟩ = false) := Lib.hid fun o => by unfold put4; simp only [World.frozen?_setCell]; exact HZ3.out.fz o
    have HS4 : Hid (w.heap.size < (put4 w3 w.heap.size (.int .i64 c.k) (.int .i64 c.v) (.int .i64 c.n) (.slice p c.ps.length k)).heap.size) := Lib.hid (by rw [put4_size]; exact HZ3.out.lt)
    have hsz4 := put4_size (w := w3) (b := w.heap.size) (.int .i64 c.k) (.int .i64 c.v) (.int .i64 c.n) (.slice p c.ps.length k)
    clear HP3 HK3 HC3 HZ3
    unfold put4 at hsz4 HP4 HK4 HC4 HX4 HF4 HS4
    unfold cV
    go_wp2_with fail
    clear z0 z1 z2 z3 f0 f1 f2 f3
    generalize (((w3.setCell ⟨w.heap.size, 0, none⟩ (.int .i64 c.k)).setCell ⟨w.heap.size, 1, none⟩ (.int .i64 c.v)).setCell ⟨w.heap.size, 2, none⟩ (.int .i64 c.n)).setCell ⟨w.heap.size, 3, none⟩ (.slice p c.ps.length k) = w4 at *
    go_at_call 64
    have HX2 := HX.out w4 q HP4.out
    rw [hsz4, HT.out] at HX2
    refine HX2.mono ?_
    clear HX2 HX
    intro e w5 he
    cases T with
    | err a x =>
      obtain ⟨rfl, hk⟩ := he
      have hRe := HR2.out
      subst hRe
      go_wp2_with fail
      exact ⟨rfl, rfl, HK4.out.trans ((Kp.ofBelow ((Below.refl _ _).alloc (Nat.le_refl _) _) (Nat.le_refl _)).trans hk)⟩
    | ok u r =>
      obtain ⟨rfl, hk, q5, rfl, hp⟩ := he
      have hRe := HR2.out
      change PR.ok c (L.drop q5) = R at hRe
      subst hRe
      have hB := (Below.refl w4.heap.size w4).alloc (Nat.le_refl _) (.cells #[.string (S [41])] 9)
      have hk5 := (Kp.ofBelow (sb := pb) hB (Nat.le_refl _)).trans hk
      have hs4 := HS4.out
      have hb5 := hk5.block w.heap.size hs4 (by omega)
      have hc5 := fun o => World.cell?_of_block (a := ⟨w.heap.size, o, none⟩) hb5
      have hf5 := fun o => World.frozen?_of_block (a := ⟨w.heap.size, o, none⟩) hb5
      have y0 := (hc5 0).trans HX4.out.1
      have y1 := (hc5 1).trans HX4.out.2.1
      have y2 := (hc5 2).trans HX4.out.2.2.1
      have y3 := (hc5 3).trans HX4.out.2.2.2
      have f0 := (hf5 0).trans (HF4.out 0)
      have f1 := (hf5 1).trans (HF4.out 1)
      have f2 := (hf5 2).trans (HF4.out 2)
      have f3 := (hf5 3).trans (HF4.out 3)
      have hs5 := hk.size
      have hfz5 : ∀ o, w5.frozen? ⟨w.heap.size, o, none⟩ = false := fun o => (hf5 o).trans (HF4.out o)
      have HP5 := Lib.hid hp
      have HK5 := Lib.hid (HK4.out.trans hk5)
      have HC5 := Lib.hid (HC4.out.keep hk5.size fun b hb hl => hk5.block b hl (by omega))
      clear hp hk5 hk hB hb5 hc5 hf5 HX4 HF4 HK4 HC4 HP4
      go_wp2_with fail
      have HZ5 : Z4 w5 w.heap.size := ⟨Nat.lt_of_lt_of_le hs4 (Nat.le_trans (by simp) hs5), ⟨_, _, _, _, y0, y1, y2, y3⟩, hfz5⟩
      have HX := HZ5.put (.int .i64 c.k) (.int .i64 c.v) (.int .i64 c.n) (.slice p c.ps.length k)
      unfold put4 at HX
      obtain ⟨c0, c1, c2, c3⟩ := HX
      refine bodyPost_ret (v := .agg #[.int .i64 c.k, .int .i64 c.v, .int .i64 c.n, .slice p c.ps.length k]) ?_ rfl (put4_end hpb htb HP5.out HK5.out HC5.out _ _ _ _)
      simp [results, Tryz.results97, go_sem, c0, c1, c2, c3]

theorem unit_any : ∀ (lv d : Nat), lv + d = 16 → ∀ (w : World) (pb tb off cap : Nat) (M : Nat → Value) (L : List Tk) (i : Nat), GlE w → Psr w pb tb off cap M L i →
    Calls Tryz.prog 97 #[.pointer (some ⟨pb, 0, none⟩), .int .i64 d] w fun e w' => EndsC w pb tb off cap M L (unitS lv (L.drop i)) e w'
  | 0, d, hd, w, pb, tb, off, cap, M, L, i, hG, h => by
    rw [unitS]
    dsimp only
    cases hn : seesS wNot (L.drop i) with
    | true => rw [if_pos rfl]; exact unit_deep d (by omega) (by omega) w pb tb off cap M L i h (.inl hn)
    | false =>
      rw [if_neg (by decide)]
      cases hp : seesS [40] (L.drop i) with
      | true => rw [if_pos rfl]; exact unit_deep d (by omega) (by omega) w pb tb off cap M L i h (.inr ⟨hn, hp⟩)
      | false => rw [if_neg (by decide)]; exact comp_any d (by omega) w pb tb off cap M L i h hG hn hp
  | lv + 1, d, hd, w, pb, tb, off, cap, M, L, i, hG, h => by
    rw [unitS]
    dsimp only
    have hU := fun wx q hg hx => unit_any lv (d + 1) (by omega) wx pb tb off cap M L q hg hx
    cases hn : seesS wNot (L.drop i) with
    | true => rw [if_pos rfl]; exact unit_not (unitS lv) d (by omega) w pb tb off cap M L i h hG hn hU
    | false =>
      rw [if_neg (by decide)]
      cases hp : seesS [40] (L.drop i) with
      | true => rw [if_pos rfl]; exact unit_par (unitS lv) (unit_less lv) d (by omega) w pb tb off cap M L i h hG hn hp hU
      | false => rw [if_neg (by decide)]; exact comp_any d (by omega) w pb tb off cap M L i h hG hn hp
theorem cond_any (w : World) (pb tb off cap : Nat) (M : Nat → Value) (L : List Tk) (i : Nat) (hG : GlE w) (h : Psr w pb tb off cap M L i) :
    Calls Tryz.prog 36 #[.pointer (some ⟨pb, 0, none⟩), .int .i64 0] w fun e w' => EndsC w pb tb off cap M L (condS 16 (L.drop i)) e w' :=
  condition_any (unitS 16) (unit_less 16) 0 w pb tb off cap M L i h hG fun wx q hg hx => unit_any 16 0 rfl wx pb tb off cap M L q hg hx
end Go.Proofs.YtdhdjfkknfbmhaaGreatDoor
