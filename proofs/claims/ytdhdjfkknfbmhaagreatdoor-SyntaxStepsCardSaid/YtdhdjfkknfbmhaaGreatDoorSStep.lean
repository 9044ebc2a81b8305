/- Steps of the kind ByS; the words that steps begin with. -/
import Derived.Test.YtdhdjfkknfbmhaaGreatDoorSCells
import Derived.Deep.RegionWith
import Derived.Deep.RegionLaw
namespace Go.Proofs.YtdhdjfkknfbmhaaGreatDoor
open Go.RowKit

def stepObj : Obj := .cells #[.string (S wOlder), .string (S wYounger), .string (S wWave), .string (S wBib), .string (S wDraw)] 9
theorem stepWords_any (w : World) : Calls Tryz.prog 94 #[] w fun e w' => e = .returned (.slice (some ⟨w.heap.size, 0, none⟩) 5 5) ∧ w' = w.alloc stepObj := by
  go_enter Tryz.func94, Tryz.ntmps94
  go_wp2_with fail
  go_ret
  exact ⟨rfl, rfl⟩
theorem STs.steps (w : World) {pb : Nat} (h : pb < w.heap.size) : STs (w.alloc stepObj) pb (some ⟨w.heap.size, 0, none⟩) stepWordsS := by
  refine fun _ => ⟨_, _, rfl, by omega, by simp, fun j hj => ?_⟩
  unfold stepObj
  match j, hj with
  | 0, _ => simp [go_sem]; rfl
  | 1, _ => simp [go_sem]; rfl
  | 2, _ => simp [go_sem]; rfl
  | 3, _ => simp [go_sem]; rfl
  | 4, _ => simp [go_sem]; rfl
theorem contains_any (ts : List Bs) (hs : ∀ s ∈ ts, s.length ≤ 1000) (hl : ts.length ≤ 1000) (p : Option Addr) (c : Nat) (w : World) (pb tb off cap : Nat) (M : Nat → Value) (L : List Tk) (i : Nat) (h : Psr w pb tb off cap M L i) (hT : STs w pb p ts) :
    Calls Tryz.prog 93 #[.slice p ts.length c, .func (Fn.func 92) #[.pointer (some ⟨pb, 0, none⟩)] #[]] w fun e w' => e = .returned (.bool (ts.any fun s => seesS s (L.drop i))) ∧ Below w.heap.size w w' := by
  have HI := Lib.hid (index_any ts hs hl p c w pb tb off cap M L i h hT)
  have HE := Lib.hid (idx_any_iff ts (L.drop i))
  generalize (ts.any fun s => seesS s (L.drop i)) = R at *
  generalize idxV (idxS ts (L.drop i)) = V at *
  clear h hT
  go_enter Tryz.func93, Tryz.ntmps93
  go_wp2_with fail
  go_at_call 135
  refine HI.out.mono ?_
  rintro e w1 ⟨rfl, hb⟩
  have HB := Lib.hid hb
  clear hb
  go_wp2_with fail
  go_ret
  exact ⟨ret_bool HE.out, HB.out⟩

set_option maxHeartbeats 4000000 in
set_option maxRecDepth 100000 in
theorem step_deep (d : Nat) (hd : 16 ≤ d) (hd2 : d ≤ 1000) (w : World) (pb tb off cap : Nat) (M : Nat → Value) (L : List Tk) (i : Nat) (h : Psr w pb tb off cap M L i) (hn : seesS wIf (L.drop i) = true) :
    Calls Tryz.prog 91 #[.pointer (some ⟨pb, 0, none⟩), .int .i64 d] w fun e w' => EndsS w pb tb off cap M L (failS 2 (L.drop i)) e w' := by
  have hA := (Below.refl w.heap.size w).alloc (Nat.le_refl _) stZero
  have HK0 := Lib.hid (Kp.ofBelow (sb := pb) hA (Nat.le_refl _))
  have HP0 := Lib.hid (h.bel hA (Nat.le_refl _))
  show Calls _ _ _ _ fun e w' => e = .panicked (failV (atS (L.drop i)) 2) ∧ Kp w w' pb
  have HN : Hid (∀ wx, Psr wx pb tb off cap M L i → Calls Tryz.prog 134 #[.pointer (some ⟨pb, 0, none⟩), .string (S wIf), .int .i64 d] wx fun e w' => e = .panicked (failV (atS (L.drop i)) 2) ∧ Below wx.heap.size wx w') := Lib.hid fun wx hx => enter_deep wIf (by decide) d hd hd2 wx pb tb off cap M L i hx hn
  clear h hA hn hd
  go_enter Tryz.func91, Tryz.ntmps91
  go_wp2_with fail
  go_at_call 134
  refine (HN.out _ HP0.out).mono ?_
  rintro e w1 ⟨rfl, hb⟩
  go_wp2_with fail
  exact ⟨rfl, rfl, HK0.out.trans (Kp.ofBelow hb (Nat.le_refl _))⟩

set_option maxHeartbeats 4000000 in
set_option maxRecDepth 100000 in
theorem step_by (d : Nat) (hd : d ≤ 1000) (w : World) (pb tb off cap : Nat) (M : Nat → Value) (L : List Tk) (i : Nat) (h : Psr w pb tb off cap M L i) (hG : GlS w) (hn : seesS wIf (L.drop i) = false) :
    Calls Tryz.prog 91 #[.pointer (some ⟨pb, 0, none⟩), .int .i64 d] w fun e w' => EndsS w pb tb off cap M L (byS (L.drop i)) e w' := by
  have hA := (Below.refl w.heap.size w).alloc (Nat.le_refl _) stZero
  have HK0 := Lib.hid (Kp.ofBelow (sb := pb) hA (Nat.le_refl _))
  have HP0 := Lib.hid (h.bel hA (Nat.le_refl _))
  have HG0 := Lib.hid hG
  have hpb := h.lt
  have htb := h.tlt
  have h9 := h.h9
  have HZ0 := Lib.hid (stZero_new w)
  have HN : Hid (∀ wx, Psr wx pb tb off cap M L i → Calls Tryz.prog 134 #[.pointer (some ⟨pb, 0, none⟩), .string (S wIf), .int .i64 d] wx fun e w' => e = .returned (.bool false) ∧ Psr w' pb tb off cap M L i ∧ Kp wx w' pb) := Lib.hid fun wx hx => enter_no wIf (by decide) d hd wx pb tb off cap M L i hx hn
  have HC : Hid (∀ wx, Psr wx pb tb off cap M L i → Calls Tryz.prog 123 #[.pointer (some ⟨pb, 0, none⟩), .slice (some ⟨wx.heap.size, 0, none⟩) 5 5] (wx.alloc stepObj).drew fun e w' => EndsI (wx.alloc stepObj).drew pb tb off cap M L (PR.map (fun (j : Nat) => ((j : Nat) : Int)) (chooseS stepWordsS (L.drop i))) e w') := Lib.hid fun wx hx =>
    choose_any stepWordsS (by decide) (by decide) _ 5 _ pb tb off cap M L i (hx.bel ((Below.refl wx.heap.size wx).alloc (Nat.le_refl _) _).drew (Nat.le_refl _)) ((STs.steps wx hx.lt).bel (Below.refl _ _).drew)
  have HX : Hid (∀ s : Bs, s.length ≤ 1000 → ∀ wx q, Psr wx pb tb off cap M L q → Calls Tryz.prog 64 #[.pointer (some ⟨pb, 0, none⟩), .slice (some ⟨wx.heap.size, 0, none⟩) 1 1] (wx.alloc (.cells #[.string (S s)] 9)) fun e w' => Ends0 wx pb tb off cap M L (expectS [s] (L.drop q)) e w') := Lib.hid fun s hs wx q hx => expect1_any s hs wx pb tb off cap M L q hx
  obtain ⟨R, hR⟩ : ∃ R, byS (L.drop i) = R := ⟨_, rfl⟩
  rw [hR]
  have HR := Lib.hid hR
  clear h hA hG hn hR
  go_enter Tryz.func91, Tryz.ntmps91
  go_wp2_with fail
  go_at_call 134
  refine (HN.out _ HP0.out).mono ?_
  rintro e w1 ⟨rfl, hp1, hk1⟩
  have HP1 := Lib.hid hp1
  have HK1 := Lib.hid (HK0.out.trans hk1)
  have HZ1 := Lib.hid (HZ0.out.kp hk1 (by omega))
  have HG1 := Lib.hid (HG0.out.kp HK1.out h9)
  clear hp1 hk1 HZ0 HN HP0 HK0 HG0
  have HC1 := Lib.hid (HC.out w1 HP1.out)
  clear HC
  cases hx : chooseS stepWordsS (L.drop i) with
  | err a x =>
    rw [hx] at HC1
    have hR : R = .err a x := by rw [← HR.out]; unfold byS; rw [hx]; rfl
    subst hR
    clear hx
    have hb1 := Kp.ofBelow (sb := pb) ((Below.refl w1.heap.size w1).alloc (Nat.le_refl _) stepObj).drew (Nat.le_refl _)
    have HE := Lib.hid (HK1.out.trans hb1)
    clear hb1
    go_wp2_with fail
    refine wp_region_any (by kernel_rfl) ?_
    change wpAny _ _ _ _ _ _ _ (World.drew _)
    refine wpAny_take (i := 0) (v := ?v0) rfl (by kernel_rfl) (by kernel_rfl) (by kernel_rfl) (fun _ _ _ h => h) (Or.inl ⟨by rfl, ?y0⟩) ?r0
    case y0 => intro w; go_simp; try with_reducible rfl
    refine wpAny_take (i := 5) (v := ?v5) rfl (by kernel_rfl) (by kernel_rfl) (by kernel_rfl) (fun _ _ _ h => h) (Or.inl ⟨by rfl, ?y5⟩) ?r5
    case y5 => intro w; go_simp; try with_reducible rfl
    refine wpAny_ready (rs := [1]) (by kernel_rfl) (by simp) ?_
    refine AllReady.cons rfl (fun K hK => ?_) AllReady.nil
    go_simp
    go_at_call 94
    refine (stepWords_any _).mono ?_
    rintro e w' ⟨rfl, rfl⟩
    refine hK _ _ ?_
    clear hK K
    refine wpAny_ready (rs := [2]) (by kernel_rfl) (by simp) ?_
    refine AllReady.cons rfl (fun K hK => ?_) AllReady.nil
    go_simp
    go_at_call 123
    refine HC1.out.mono ?_
    rintro e w3 ⟨rfl, hk3⟩
    exact ⟨rfl, rfl, HE.out.trans hk3⟩
  | ok v r =>
    have hv : v < 5 := by
      unfold chooseS at hx
      split at hx
      · cases hx
      · rename_i j hj
        cases hx
        exact idxS_lt _ _ _ hj
    rw [hx] at HC1
    obtain ⟨a, ha⟩ : ∃ a, (v : Int) + 1 = a := ⟨_, rfl⟩
    have HCR : Hid (∀ w3, Kp (w1.alloc stepObj).drew w3 pb → w3.cell? ⟨1, v, none⟩ = some (.int .i64 a)) := Lib.hid fun w3 hk => by
      have := (HG1.out.bel ((Below.refl w1.heap.size w1).alloc (Nat.le_refl _) stepObj).drew).kp hk h9
      rw [← ha]
      exact this.cr v hv
    have HZ2 : Hid (∀ w3, Kp (w1.alloc stepObj).drew w3 pb → Cells w3 w.heap.size (cellsS (.mk 0 0 .zero [] []) ⟨none, 0, none, 0, none, 0⟩)) := Lib.hid fun w3 hk =>
      (HZ1.out.bel ((Below.refl w1.heap.size w1).alloc (Nat.le_refl _) stepObj).drew).kp hk (by omega)
    have HK2 : Hid (∀ w3, Kp (w1.alloc stepObj).drew w3 pb → Kp w w3 pb) := Lib.hid fun w3 hk => HK1.out.trans ((Kp.ofBelow ((Below.refl w1.heap.size w1).alloc (Nat.le_refl _) stepObj).drew (Nat.le_refl _)).trans hk)
    have HT : Hid ((expectS [[59]] (r)).map (fun _ => St.mk 1 a .zero [] []) = R) := Lib.hid (by rw [← HR.out]; unfold byS; rw [hx, ← ha]; rfl)
    have hv5 : (v : Int) < 5 := by omega
    have hv0 : (0 : Int) ≤ (v : Int) := by omega
    clear hx ha hv HG1 HR HK1 HP1 HZ1
    go_wp2_with fail
    go_region_with (first | (go_at_call 94; refine (stepWords_any _).mono ?_; rintro e w' ⟨rfl, rfl⟩) | (go_at_call 123; refine HC1.out.mono ?_; rintro e w3 ⟨rfl, hk3, q3, hq3, hp3⟩; have hcr := HCR.out w3 hk3; have HZ3 := Lib.hid (HZ2.out w3 hk3); have HK3 := Lib.hid (HK2.out w3 hk3); have HP3 := Lib.hid hp3; clear hk3 hp3; have z0 := HZ3.out.c 0 _ rfl; have z1 := HZ3.out.c 1 _ rfl; have f0 := HZ3.out.fz 0; have f1 := HZ3.out.fz 1))
    all_goals (
      have HZ5 := Lib.hid ((HZ3.out.set 0 (.int .i64 1)).set 1 (.int .i64 a))
      have hk5 := (Kp.own w3 w.heap.size 0 (.int .i64 1)).trans (Kp.own _ w.heap.size 1 (.int .i64 a))
      have HK5 := Lib.hid (HK3.out.trans2 hk5 (Nat.le_refl _))
      have HP5 := Lib.hid (Cells.psr HP3.out hk5 (by omega) (by omega))
      clear hk5 HZ3 HK3 HP3 z0 z1 f0 f1 hcr HCR HZ2 HK2 HC1
      generalize (w3.setCell ⟨w.heap.size, 0, none⟩ (.int .i64 1)).setCell ⟨w.heap.size, 1, none⟩ (.int .i64 a) = w5 at *
      obtain ⟨T, hT⟩ : ∃ T, expectS [[59]] r = T := ⟨_, rfl⟩
      rw [hT] at HT
      have HX5 := Lib.hid (HX.out [59] (by decide) w5 q3 HP5.out)
      rw [hq3, hT] at HX5
      clear hT HX
      go_wp2_with fail
      go_at_call 64
      refine HX5.out.mono ?_
      clear HX5
      intro e w6 he)
    all_goals (
      cases T with
      | err a' x =>
        obtain ⟨rfl, hk⟩ := he
        have hRe := HT.out
        subst hRe
        go_wp2_with fail
        exact ⟨rfl, rfl, HK5.out.trans hk⟩
      | ok u r =>
        obtain ⟨rfl, hk, q6, rfl, hp⟩ := he
        have hRe := HT.out
        change PR.ok (St.mk 1 a .zero [] []) (L.drop q6) = R at hRe
        subst hRe
        have HZ6 := Lib.hid (HZ5.out.kp hk (by omega))
        have HK6 := Lib.hid (HK5.out.trans hk)
        have HE := Lib.hid (putS_end (s := .mk 1 a .zero [] []) (x := ⟨none, 0, none, 0, none, 0⟩) hpb htb hp HK6.out ⟨CdIn.leaf, SsIn.nil, SsIn.nil⟩ (cellsS (.mk 1 a .zero [] []) ⟨none, 0, none, 0, none, 0⟩))
        have HY := Lib.hid (putL_cells HZ6.out (cellsS (.mk 1 a .zero [] []) ⟨none, 0, none, 0, none, 0⟩) rfl)
        have z0 : w6.cell? ⟨w.heap.size, 0, none⟩ = some (.int .i64 1) := HZ6.out.c 0 _ rfl
        have z1 : w6.cell? ⟨w.heap.size, 1, none⟩ = some (.int .i64 a) := HZ6.out.c 1 _ rfl
        have z2 : w6.cell? ⟨w.heap.size, 2, none⟩ = some (.int .i64 0) := HZ6.out.c 2 _ rfl
        have z3 : w6.cell? ⟨w.heap.size, 3, none⟩ = some (.int .i64 0) := HZ6.out.c 3 _ rfl
        have z4 : w6.cell? ⟨w.heap.size, 4, none⟩ = some (.int .i64 0) := HZ6.out.c 4 _ rfl
        have z5 : w6.cell? ⟨w.heap.size, 5, none⟩ = some (.slice none 0 0) := HZ6.out.c 5 _ rfl
        have z6 : w6.cell? ⟨w.heap.size, 6, none⟩ = some (.slice none 0 0) := HZ6.out.c 6 _ rfl
        have z7 : w6.cell? ⟨w.heap.size, 7, none⟩ = some (.slice none 0 0) := HZ6.out.c 7 _ rfl
        have f0 := HZ6.out.fz 0
        have f1 := HZ6.out.fz 1
        have f2 := HZ6.out.fz 2
        have f3 := HZ6.out.fz 3
        have f4 := HZ6.out.fz 4
        have f5 := HZ6.out.fz 5
        have f6 := HZ6.out.fz 6
        have f7 := HZ6.out.fz 7
        clear hk hp HZ5 HK5 HP5 HT
        have hc := HY.out.c
        simp only [putL, cellsS, St.k, St.b, St.c, St.th, St.el, Cd.zero, Cd.k, Cd.v, Cd.n, Cd.ps, List.length_nil, Nat.zero_add, Nat.reduceAdd] at hc
        have c0 := hc 0 _ rfl
        have c1 := hc 1 _ rfl
        have c2 := hc 2 _ rfl
        have c3 := hc 3 _ rfl
        have c4 := hc 4 _ rfl
        have c5 := hc 5 _ rfl
        have c6 := hc 6 _ rfl
        have c7 := hc 7 _ rfl
        clear hc
        have HC := Lib.hid (And.intro c0 (And.intro c1 (And.intro c2 (And.intro c3 (And.intro c4 (And.intro c5 (And.intro c6 c7)))))))
        clear c0 c1 c2 c3 c4 c5 c6 c7
        go_wp2_with fail
        obtain ⟨c0, c1, c2, c3, c4, c5, c6, c7⟩ := HC.out
        refine bodyPost_ret (v := sV (.mk 1 a .zero [] []) ⟨none, 0, none, 0, none, 0⟩) ?_ rfl HE.out
        simp [results, Tryz.results91, go_sem, c0, c1, c2, c3, c4, c5, c6, c7]
        rfl)
end Go.Proofs.YtdhdjfkknfbmhaaGreatDoor
