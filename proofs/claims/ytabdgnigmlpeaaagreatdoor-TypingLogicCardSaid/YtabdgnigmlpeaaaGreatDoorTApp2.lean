/- applied. -/
import Derived.Test.YtabdgnigmlpeaaaGreatDoorTApp
import Derived.Deep.RegionHeld3
namespace Go.Proofs.YtabdgnigmlpeaaaGreatDoor
open Go.RowKit

theorem gr_bel {w w' : World} (o : Option Nat) (hb : Below w.heap.size w w') : w.grownBy w' o := ⟨hb.os, hb.tape, hb.output, hb.size, fun k hk _ => hb.block k hk⟩
theorem gr_then {W1 wr wa w5 : World} {o v : Option Nat} (h : W1.grownBy wr o) (hv : v = o ∨ ∀ k, v = some k → W1.heap.size ≤ k) (hb : wr.heap.size ≤ wa.heap.size ∧ ∀ k, k < wr.heap.size → some k ≠ v → wa.heap[k]? = wr.heap[k]?) (ho : wa.os = wr.os ∧ wa.tape = wr.tape ∧ wa.output = wr.output) (hg : wa.grownBy w5 v) : W1.grownBy w5 o := by
  refine ⟨hg.os.trans (ho.1.trans h.os), hg.tape.trans (ho.2.1.trans h.tape), hg.output.trans (ho.2.2.trans h.output), Nat.le_trans h.size (Nat.le_trans hb.1 hg.size), fun k hk hne => ?_⟩
  have hkv : some k ≠ v := fun e => by
    rcases hv with h1 | h1
    · exact hne (e.trans h1)
    · have := h1 k e.symm; omega
  have hk2 : k < wr.heap.size := Nat.lt_of_lt_of_le hk h.size
  exact ((hg.block k (Nat.lt_of_lt_of_le hk2 hb.1) hkv).trans (hb.2 k hk2 hkv)).trans (h.block k hk hne)
theorem gr_two {wr wa w5 : World} {v : Option Nat} (h : wr.grownBy wa v) (hg : wa.grownBy w5 v) : wr.grownBy w5 v := ⟨hg.os.trans h.os, hg.tape.trans h.tape, hg.output.trans h.output, Nat.le_trans h.size hg.size, fun k hk hne => (hg.block k (Nat.lt_of_lt_of_le hk h.size) hne).trans (h.block k hk hne)⟩
/-- What applied comes to. -/
def AppR (W : World) (B : Nat) (val : Value) (L : List Int) (e : Ending) (w' : World) : Prop :=
  ∃ val', e = .returned val' ∧ OwnI w' B val' L ∧ W.grownBy w' val.ownBlock ∧ (val'.ownBlock = val.ownBlock ∨ ∀ k, val'.ownBlock = some k → W.heap.size ≤ k)
/-- applied, of the forms fs. -/
def AppAt (x : En) (Q : Nat → Prop) (fs : List Fm) : Prop :=
  ∀ (W : World) (B : Nat) (val : Value) (l : List Int) (p : Option Addr) (cap : Nat), (∀ b, Q b → b < B) → B ≤ W.heap.size → OwnI W B val l → l.length + nFs fs ≤ 1000000 → FsIn W Q fs p cap →
    Calls Tryz.prog 52 #[val, .slice p fs.length cap, envV x] W (AppR W B val (appFs x l fs))
/-- What stands in the loop of applied; W is the world behind the laying of the environment. -/
structure ASt (W wr : World) (B : Nat) (o : Option Nat) (v : Value) (L : List Int) : Prop where
  own : OwnI wr B v L
  gr : W.grownBy wr o
  at' : v.ownBlock = o ∨ ∀ k, v.ownBlock = some k → W.heap.size ≤ k
theorem ASt.step {W wr wa w5 : World} {B : Nat} {o : Option Nat} {v v5 : Value} {L L5 : List Int} (h : ASt W wr B o v L) (hb : Below wr.heap.size wr wa) (ho : OwnI w5 B v5 L5) (hg : wa.grownBy w5 v.ownBlock) (hat : v5.ownBlock = v.ownBlock ∨ ∀ k, v5.ownBlock = some k → wa.heap.size ≤ k) : ASt W w5 B o v5 L5 := by
  refine ⟨ho, gr_then h.gr h.at' ⟨hb.size, fun k hk _ => hb.block k hk⟩ ⟨hb.os, hb.tape, hb.output⟩ hg, ?_⟩
  rcases hat with h1 | h1
  · rw [h1]; exact h.at'
  · exact .inr fun k hk => Nat.le_trans h.gr.size (Nat.le_trans hb.size (h1 k hk))
theorem ASt.step2 {W wr w1 w5 : World} {B : Nat} {o : Option Nat} {v v5 : Value} {L L5 : List Int} (h : ASt W wr B o v L) (hb : wr.grownBy w1 v.ownBlock) (ho : OwnI w5 B v5 L5) (hg : w1.grownBy w5 v.ownBlock) (hat : v5.ownBlock = v.ownBlock ∨ ∀ k, v5.ownBlock = some k → w1.heap.size ≤ k) : ASt W w5 B o v5 L5 := by
  refine ⟨ho, gr_then h.gr h.at' ⟨hb.size, hb.block⟩ ⟨hb.os, hb.tape, hb.output⟩ hg, ?_⟩
  rcases hat with h1 | h1
  · rw [h1]; exact h.at'
  · exact .inr fun k hk => Nat.le_trans h.gr.size (Nat.le_trans hb.size (h1 k hk))
theorem OwnI.shape {w : World} {B : Nat} {v : Value} {l : List Int} (h : OwnI w B v l) : ∃ p cap, v = .slice p l.length cap := by
  rcases h.2 with ⟨hv, hn0⟩ | ⟨g, cap, cur, hv, _⟩
  · rw [hn0]; exact ⟨_, _, hv⟩
  · exact ⟨_, _, hv⟩
theorem keepg {w w' : World} {b o : Nat} {v : Value} {r : Option Nat} (hg : w.grownBy w' r) (hne : some b ≠ r) (h : w.cell? ⟨b, o, none⟩ = some v) : w'.cell? ⟨b, o, none⟩ = some v := hg.cell h hne
theorem held6h {A B C D E F G : Prop} (h : A ∧ B ∧ C ∧ D ∧ E ∧ F ∧ Hid G) : G := h.2.2.2.2.2.2.out

theorem own_at {o : Option Nat} {g n c sz : Nat} (h : o = some g ∨ sz ≤ g) : (Value.slice (some ⟨g, 0, none⟩) n c).ownBlock = o ∨ ∀ k, (Value.slice (some ⟨g, 0, none⟩) n c).ownBlock = some k → sz ≤ k := by
  have e : (Value.slice (some ⟨g, 0, none⟩) n c).ownBlock = some g := by simp [Value.ownBlock]
  rw [e]
  rcases h with h | h
  · exact .inl h.symm
  · exact .inr fun k hk => by cases hk; exact h
set_option maxHeartbeats 16000000 in
set_option maxRecDepth 100000 in
theorem applied_loop (x : En) (Q : Nat → Prop) (fs : List Fm) (hstep : stepFs fs = true) (hth : ∀ i (h : i < fs.length) c th el, fs[i] = .bran c th el → AppAt x Q th ∧ AppAt x Q el) : AppAt x Q fs := by
  intro W B val l p cap hQB hB hown hlen hF
  obtain ⟨b, off, hL, hAt⟩ := hF
  have hA := (Below.refl W.heap.size W).alloc (Nat.le_refl _) (.cells #[.int .i64 x.d, .int .i64 x.f, .int .i64 x.s] 42)
  have hE := EnvAt.new W x
  have hownlt := hown.lt
  have H0 : Hid (ASt (W.alloc (.cells #[.int .i64 x.d, .int .i64 x.f, .int .i64 x.s] 42)) (W.alloc (.cells #[.int .i64 x.d, .int .i64 x.f, .int .i64 x.s] 42)) B val.ownBlock val (appFs x l (fs.take 0))) := Lib.hid ⟨by rw [List.take_zero, appFs]; exact hown.bel hA, World.grownBy.refl _ _, .inl rfl⟩
  have HGA := Lib.hid (gr_bel val.ownBlock hA)
  have HEv : Hid (∀ wr, (W.alloc (.cells #[.int .i64 x.d, .int .i64 x.f, .int .i64 x.s] 42)).grownBy wr val.ownBlock → wr.cell? ⟨W.heap.size, 0, none⟩ = some (.int .i64 x.d) ∧ wr.cell? ⟨W.heap.size, 1, none⟩ = some (.int .i64 x.f) ∧ wr.cell? ⟨W.heap.size, 2, none⟩ = some (.int .i64 x.s)) := Lib.hid fun wr hg => by
    have hne : some W.heap.size ≠ val.ownBlock := fun e => by have := (hownlt _ e.symm).2; omega
    exact ⟨keepg hg hne hE.c0, keepg hg hne hE.c1, keepg hg hne hE.c2⟩
  have HFm : Hid (∀ wr, (W.alloc (.cells #[.int .i64 x.d, .int .i64 x.f, .int .i64 x.s] 42)).grownBy wr val.ownBlock → ∀ i (h : i < fs.length), ∃ y, p = some ⟨b, off, none⟩ ∧ wr.cell? ⟨b, off + i, none⟩ = some y ∧ FmIn wr Q fs[i] y) := Lib.hid fun wr hg i hi => by
    obtain ⟨y, h1, h2⟩ := FsAt.get fs off hAt i hi
    have hne : fs.length ≠ 0 := by omega
    have hqb := (hL.hb hne).2.1
    have hg2 := gr_two (gr_bel val.ownBlock hA) hg
    have hnb : ∀ k, Q k → some k ≠ val.ownBlock := fun k hk e => by have := (hownlt k e.symm).1; have := hQB k hk; omega
    exact ⟨y, (hL.hb hne).1, keepg hg2 (hnb b hqb) h1, FmIn.keep2 hg2.size (fun k hk hkl => ⟨hk, hg2.block k hkl (hnb k hk)⟩) _ _ h2⟩
  have HQB := Lib.hid hQB
  have HT := Lib.hid hth
  have hl := hL.hl
  have HS := Lib.hid hstep
  have HO := Lib.hid hownlt
  have HLn := Lib.hid hlen
  obtain ⟨pv, cv, rfl⟩ := hown.shape
  clear hA hE hownlt hQB hth hL hAt hown hstep hlen
  obtain ⟨ob, hob⟩ : ∃ ob, (Value.slice pv l.length cv).ownBlock = ob := ⟨_, rfl⟩
  have HOB := Lib.hid hob
  rw [hob] at H0 HEv HFm HGA HO
  clear hob
  unfold envV
  go_enter Tryz.func52, Tryz.ntmps52
  go_wp2_with fail
  go_loopw [0, 13] (fun v i wr => ∃ (j : Nat), j ≤ fs.length ∧ i = .int .i64 j ∧ Hid (ASt (W.alloc (.cells #[.int .i64 x.d, .int .i64 x.f, .int .i64 x.s] 42)) wr B ob v (appFs x l (fs.take j)))) (fun _ i _ => fs.length - (intOf i).toNat)
  case atStart => exact ⟨0, Nat.zero_le _, rfl, H0⟩
  case round =>
    obtain ⟨j, hj, rfl, HL⟩ := hrel
    clear H0
    by_cases hlt : j < fs.length
    · have hji : (j : Int) < (fs.length : Int) := by omega
      obtain ⟨y, rfl, hy, hf⟩ := HFm.out wr HL.out.gr j hlt
      obtain ⟨g0, g1, g2⟩ := HEv.out wr HL.out.gr
      have hst := stepFs_get fs j hlt HS.out
      have HAP : Hid (appFs x l (fs.take (j + 1)) = appF x (appFs x l (fs.take j)) fs[j]) := Lib.hid (appFs_take x fs l j hlt)
      have hnf := nFs_take fs j hlt
      have hal := appFs_len x (fs.take j) l
      have hll := HLn.out
      obtain ⟨pw, cw, hw⟩ := HL.out.own.shape
      subst hw
      have HTj := Lib.hid (HT.out j hlt)
      clear HT HS
      generalize hLj : appFs x l (fs.take j) = Lj at *
      cases hfj : fs[j] with
      | crit n =>
        rw [hfj, FmIn] at hf
        subst hf
        rw [hfj, appF] at HAP
        rw [hfj, nF] at hnf
        have hLl : Lj.length ≤ 1000000 := by omega
        have hA := (Below.refl wr.heap.size wr).alloc (Nat.le_refl _) (.cells #[.int .i64 n] 167)
        obtain ⟨pp, cc, bb, hv, hp1, hc1, -, -⟩ := (HL.out.own.bel hA).reads hLl
        obtain ⟨rfl, -, rfl⟩ := Value.slice.inj hv
        have HCt := Lib.hid (containsI_any Lj n pw bb cw _ hLl hp1 hc1)
        have HA := Lib.hid hA
        have HOa := Lib.hid (HL.out.own.bel hA)
        clear hv hp1 hc1 hA hst HTj hfj hnf hal hll HFm HEv
        have hBw : B ≤ (wr.alloc (.cells #[.int .i64 n] 167)).heap.size := by have := HL.out.gr.size; simp only [World.size_alloc] at this ⊢; omega
        have t1 := ta_criterion_criterion
        cases hq : Lj.contains n with
        | true =>
          rw [hq] at HCt
          rw [if_pos hq] at HAP
          have HS2 : Hid (ASt (W.alloc (.cells #[.int .i64 x.d, .int .i64 x.f, .int .i64 x.s] 42)) (wr.alloc (.cells #[.int .i64 n] 167)) B ob _ (appFs x l (fs.take (j + 1)))) := Lib.hid (by rw [HAP.out]; exact HL.out.step HA.out HOa.out (World.grownBy.refl _ _) (.inl rfl))
          clear hq hLj
          go_wp2_with (go_at_call 114; (with_reducible refine HCt.out.mono ?_); rintro e w1 ⟨rfl, rfl⟩)
          go_roundw
          case rel => exact ⟨j + 1, by omega, by go_num, HS2⟩
          case measure => simp [intOf]; omega
        | false =>
          rw [hq] at HCt
          rw [if_neg (by rw [hq]; decide)] at HAP
          clear hq hLj
          go_wp2_with (first | (go_at_call 114; (with_reducible refine HCt.out.mono ?_); rintro e w1 ⟨rfl, rfl⟩) | (refine wpList_pushI rfl _ _ rfl B _ Lj HOa.out rfl n 1 _ (by simp) rfl hLl hBw ?_; intro g cap' w5 ho5 hg5 hat5; have HS2 := Lib.hid (HL.out.step HA.out ho5 hg5 (own_at hat5)); rw [← HAP.out] at HS2; clear ho5 hg5 hat5))
          go_roundw
          case rel => exact ⟨j + 1, by omega, by go_num, HS2⟩
          case measure => simp [intOf]; omega
      | bran c th el =>
        rw [hfj, stepF, Bool.and_eq_true, Bool.and_eq_true] at hst
        obtain ⟨hrc, -, -⟩ := hst
        obtain ⟨hat1, hat2⟩ := HTj.out c th el hfj
        rw [hfj, nF] at hnf
        rw [hfj, FmIn] at hf
        obtain ⟨yc, p1, cap1, b1, off1, p2, cap2, b2, off2, rfl, hyc, ⟨hL1, hA1⟩, hL2, hA2⟩ := hf
        rw [hfj, appF] at HAP
        obtain ⟨tc, vc, rfl⟩ := hyc.iface
        have hA := (Below.refl wr.heap.size wr).alloc (Nat.le_refl _) (.cells #[.iface tc vc, .slice p1 th.length cap1, .slice p2 el.length cap2] 169)
        have HOa := Lib.hid (HL.out.own.bel hA)
        have HBw : Hid (B ≤ wr.heap.size) := Lib.hid (by have := HL.out.gr.size; simp only [World.size_alloc] at this; omega)
        have hownr := HL.out.own.lt
        have HX : Hid (∀ wa, wr.alloc (.cells #[.iface tc vc, .slice p1 th.length cap1, .slice p2 el.length cap2] 169) = wa → ∀ w', wa.grownBy w' (Value.slice pw Lj.length cw).ownBlock →
            w'.cell? ⟨W.heap.size, 0, none⟩ = some (.int .i64 x.d) ∧ w'.cell? ⟨W.heap.size, 1, none⟩ = some (.int .i64 x.f) ∧ w'.cell? ⟨W.heap.size, 2, none⟩ = some (.int .i64 x.s) ∧ w'.cell? ⟨wr.heap.size, 0, none⟩ = some (.iface tc vc) ∧ w'.cell? ⟨wr.heap.size, 1, none⟩ = some (.slice p1 th.length cap1) ∧ w'.cell? ⟨wr.heap.size, 2, none⟩ = some (.slice p2 el.length cap2) ∧ Hid (wa.grownBy w' (Value.slice pw Lj.length cw).ownBlock)) := Lib.hid fun wa e w' hg => by
          subst e
          have hne : some wr.heap.size ≠ (Value.slice pw Lj.length cw).ownBlock := fun e => by have := (hownr _ e.symm).2; omega
          have hneW : some W.heap.size ≠ (Value.slice pw Lj.length cw).ownBlock := fun e => by
            rcases HL.out.at' with h1 | h1
            · rw [h1] at e; have := (HO.out _ e.symm).2; omega
            · have := h1 _ e.symm; simp only [World.size_alloc] at this; omega
          exact ⟨keepg hg hneW (keepc hA g0), keepg hg hneW (keepc hA g1), keepg hg hneW (keepc hA g2), keepg hg hne (by simp [go_sem]), keepg hg hne (by simp [go_sem]), keepg hg hne (by simp [go_sem]), Lib.hid hg⟩
        have hnb : ∀ k, Q k → some k ≠ (Value.slice pw Lj.length cw).ownBlock := fun k hk e => by have := (hownr k e.symm).1; have := HQB.out k hk; omega
        have HFo : Hid (∀ wa, wr.alloc (.cells #[.iface tc vc, .slice p1 th.length cap1, .slice p2 el.length cap2] 169) = wa → ∀ w1, wa.grownBy w1 (Value.slice pw Lj.length cw).ownBlock → Calls Tryz.prog 115 #[.agg #[.iface tc vc, .slice p1 th.length cap1, .slice p2 el.length cap2], envV x] w1 fun e w' => e = .returned (if holdF x c = true then .slice p1 th.length cap1 else .slice p2 el.length cap2) ∧ Hid (wa.grownBy w' (Value.slice pw Lj.length cw).ownBlock) ∧ Hid (OwnI w1 B (.slice pw Lj.length cw) Lj → OwnI w' B (.slice pw Lj.length cw) Lj)) := Lib.hid fun wa e w1 hg => by
          subst e
          have hg2 := gr_two (gr_bel (Value.slice pw Lj.length cw).ownBlock hA) hg
          exact (follows_any c _ p1 p2 th.length el.length cap1 cap2 x w1 Q hrc (FmIn.keep2 hg2.size (fun k hk hkl => ⟨hk, hg2.block k hkl (hnb k hk)⟩) _ _ hyc)).mono fun e w' hr => ⟨hr.1, Lib.hid (gr_two hg (gr_bel _ hr.2)), Lib.hid fun ho => ho.bel hr.2⟩
        have HAp : Hid (∀ wa, wr.alloc (.cells #[.iface tc vc, .slice p1 th.length cap1, .slice p2 el.length cap2] 169) = wa → ∀ w1, wa.grownBy w1 (Value.slice pw Lj.length cw).ownBlock → OwnI w1 B (.slice pw Lj.length cw) Lj →
            Calls Tryz.prog 52 #[.slice pw Lj.length cw, if holdF x c = true then .slice p1 th.length cap1 else .slice p2 el.length cap2, envV x] w1 fun e w' => ∃ p9 c9 n9, e = .returned (.slice p9 n9 c9) ∧ Hid (wa.grownBy w' (Value.slice pw Lj.length cw).ownBlock) ∧ Hid (ASt (W.alloc (.cells #[.int .i64 x.d, .int .i64 x.f, .int .i64 x.s] 42)) w' B ob (.slice p9 n9 c9) (appFs x l (fs.take (j + 1))))) := Lib.hid fun wa e w1 hg ho => by
          subst e
          have hg2 := gr_two (gr_bel (Value.slice pw Lj.length cw).ownBlock hA) hg
          have hBw1 : B ≤ w1.heap.size := Nat.le_trans HBw.out hg2.size
          have hF1 : FsIn w1 Q th p1 cap1 := FsIn.keep2 ⟨b1, off1, hL1, hA1⟩ hg2.size fun k hk hkl => ⟨hk, hg2.block k hkl (hnb k hk)⟩
          have hF2 : FsIn w1 Q el p2 cap2 := FsIn.keep2 ⟨b2, off2, hL2, hA2⟩ hg2.size fun k hk hkl => ⟨hk, hg2.block k hkl (hnb k hk)⟩
          have key : ∀ L, AppR w1 B (.slice pw Lj.length cw) L = AppR w1 B (.slice pw Lj.length cw) L := fun _ => rfl
          rw [HAP.out]
          split
          · refine (hat1 w1 B _ Lj p1 cap1 HQB.out hBw1 ho (by omega) hF1).mono fun e w' ⟨val', he, h1, h2, h3⟩ => ?_
            obtain ⟨p9, c9, rfl⟩ := h1.shape
            exact ⟨p9, c9, _, he, Lib.hid (gr_two hg h2), Lib.hid (HL.out.step2 hg2 h1 h2 h3)⟩
          · refine (hat2 w1 B _ Lj p2 cap2 HQB.out hBw1 ho (by omega) hF2).mono fun e w' ⟨val', he, h1, h2, h3⟩ => ?_
            obtain ⟨p9, c9, rfl⟩ := h1.shape
            exact ⟨p9, c9, _, he, Lib.hid (gr_two hg h2), Lib.hid (HL.out.step2 hg2 h1 h2 h3)⟩
        clear hA hyc hL1 hA1 hL2 hA2 hat1 hat2 HTj hnf hal hll hnb hrc hownr g0 g1 g2 hfj HAP hLj HFm HEv
        have t1 := ta_branch_criterion
        have t2 := ta_branch_branch
        unfold envV at HFo HAp
        generalize holdF x c = q at *
        generalize th.length = n1 at *
        generalize el.length = n2 at *
        obtain ⟨d0, f0, s0⟩ := x
        simp only at *
        cases q
        all_goals
          simp only [Bool.false_eq_true, if_false, if_true] at HFo HAp
          go_wp2_with fail
          generalize hWA : wr.alloc (.cells #[.iface tc vc, .slice p1 n1 cap1, .slice p2 n2 cap2] 169) = wa at *
          have HX2 := Lib.hid (HX.out wa rfl)
          have HF2 := Lib.hid (HFo.out wa rfl)
          have HA2 := Lib.hid (HAp.out wa rfl)
          have HGd := Lib.hid (gr_bel (Value.slice pw Lj.length cw).ownBlock (Below.refl wa.heap.size wa).drew)
          have HOd := Lib.hid (HOa.out.bel (Below.refl wa.heap.size wa).drew)
          clear HX HFo HAp hWA
          obtain ⟨z0, z1, z2, z3, z4, z5, -⟩ := HX2.out wa (World.grownBy.refl _ _)
          go_region_held3 (fun w' => w'.cell? ⟨W.heap.size, 0, none⟩ = some (.int .i64 d0) ∧ w'.cell? ⟨W.heap.size, 1, none⟩ = some (.int .i64 f0) ∧ w'.cell? ⟨W.heap.size, 2, none⟩ = some (.int .i64 s0) ∧ w'.cell? ⟨wr.heap.size, 0, none⟩ = some (.iface tc vc) ∧ w'.cell? ⟨wr.heap.size, 1, none⟩ = some (.slice p1 n1 cap1) ∧ w'.cell? ⟨wr.heap.size, 2, none⟩ = some (.slice p2 n2 cap2) ∧ Hid (wa.grownBy w' (Value.slice pw Lj.length cw).ownBlock))
            (first
              | with_reducible exact HX2.out _ HGd.out
              | with_reducible exact HX2.out _ (World.grownBy.refl _ _)
              | with_reducible exact HX2.out _ hb2.out
              | with_reducible exact HX2.out _ hb1.out
              | assumption | go_keep)
            (first
              | (go_at_call 115; with_reducible refine (HF2.out _ (held6h (by assumption))).mono ?_; rintro e w' ⟨rfl, hb1, ho1⟩)
              | (go_at_call 52; with_reducible refine (HA2.out _ (held6h (by assumption)) (ho1.out HOd.out)).mono ?_; rintro e w' ⟨p9, c9, n9, rfl, hb2, ha2⟩))
          all_goals
            clear HX2 HF2 HA2 HGd HOd HOa hb1 ho1 hb2
            go_wp2_with fail
            go_roundw
            case rel => exact ⟨j + 1, by omega, by go_num, ha2⟩
            case measure => simp [intOf]; omega
      | atl _ _ => rw [hfj, stepF] at hst; cases hst
      | all _ => rw [hfj, stepF] at hst; cases hst
      | one _ => rw [hfj, stepF] at hst; cases hst
      | neg _ => rw [hfj, stepF] at hst; cases hst
      | mis => rw [hfj, stepF] at hst; cases hst
    · have hji : ¬ (j : Int) < (fs.length : Int) := by omega
      obtain rfl : j = fs.length := by omega
      rw [List.take_length] at HL
      have HG2 := Lib.hid (gr_two HGA.out HL.out.gr)
      have HF : Hid (∃ val', OwnI wr B val' (appFs x l fs) ∧ W.grownBy wr ob ∧ (val'.ownBlock = ob ∨ ∀ k, val'.ownBlock = some k → W.heap.size ≤ k) ∧ val' = _) := Lib.hid ⟨_, HL.out.own, HG2.out, HL.out.at'.imp id fun h k hk => by have := h k hk; simp only [World.size_alloc] at this; omega, rfl⟩
      clear HFm HEv HT HL
      go_wp2_with fail
      go_ret
      obtain ⟨val', h1, h2, h3, h4⟩ := HF.out
      exact ⟨_, rfl, h4 ▸ h1, by rw [HOB.out]; exact h2, by rw [HOB.out]; exact h4 ▸ h3⟩

mutual
theorem app_sub (x : En) (Q : Nat → Prop) : ∀ f : Fm, stepF f = true → ∀ c th el, f = .bran c th el → AppAt x Q th ∧ AppAt x Q el
  | .bran c th el, h, c2, th2, el2, e => by
    cases e
    rw [stepF, Bool.and_eq_true, Bool.and_eq_true] at h
    exact ⟨app_list x Q th h.2.1, app_list x Q el h.2.2⟩
  | .crit _, _, _, _, _, e => by cases e
  | .atl _ _, _, _, _, _, e => by cases e
  | .all _, _, _, _, _, e => by cases e
  | .one _, _, _, _, _, e => by cases e
  | .neg _, _, _, _, _, e => by cases e
  | .mis, _, _, _, _, e => by cases e
theorem app_list (x : En) (Q : Nat → Prop) : ∀ l : List Fm, stepFs l = true → AppAt x Q l
  | l, h => applied_loop x Q l h (app_subs x Q l h)
theorem app_subs (x : En) (Q : Nat → Prop) : ∀ l : List Fm, stepFs l = true → ∀ i (h : i < l.length) c th el, l[i] = .bran c th el → AppAt x Q th ∧ AppAt x Q el
  | [], _, i, h, _, _, _, _ => absurd h (by simp)
  | f :: l, h, 0, _, c, th, el, e => app_sub x Q f (by rw [stepFs, Bool.and_eq_true] at h; exact h.1) c th el e
  | f :: l, h, i + 1, hi, c, th, el, e => app_subs x Q l (by rw [stepFs, Bool.and_eq_true] at h; exact h.2) i (by simpa using hi) c th el e
end
end Go.Proofs.YtabdgnigmlpeaaaGreatDoor
