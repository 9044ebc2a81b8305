/- The specification: valid steps and ties. -/
import Derived.Test.YtabdgnigmlpeaaaGreatDoorTRef3
namespace Go.Proofs.YtabdgnigmlpeaaaGreatDoor
open Go.RowKit

theorem okS_eq (s : St) : okS s = if s.k = 1 then decide (1 ≤ s.b ∧ s.b ≤ 5) && (noB s.c && (s.th.isEmpty && s.el.isEmpty)) else if s.k = 2 then decide (s.b = 0) && (decide (rCond s.c = 0) && (!s.th.isEmpty && (okSs s.th && okSs s.el))) else false := by
  obtain ⟨k, b, c, th, el⟩ := s
  rw [okS]; rfl
theorem okS_key (k b rc : Int) (q o1 o2 x : Bool) (e1 e2 : Nat) (hx : x = if k = 1 then decide (1 ≤ b ∧ b ≤ 5) && (q && (decide (e1 = 0) && decide (e2 = 0))) else if k = 2 then decide (b = 0) && (decide (rc = 0) && (!decide (e1 = 0) && (o1 && o2))) else false) :
    (x = false ∧ (((k = 1 ∧ b < 1) ∨ (k = 1 ∧ ¬ b < 1 ∧ 5 < b) ∨ (k = 1 ∧ ¬ b < 1 ∧ ¬ 5 < b ∧ q = false) ∨ (k = 1 ∧ ¬ b < 1 ∧ ¬ 5 < b ∧ q = true ∧ ((e1 : Int) != 0) = true) ∨ (k = 1 ∧ ¬ b < 1 ∧ ¬ 5 < b ∧ q = true ∧ e1 = 0 ∧ ((e2 : Int) != 0) = true)) ∨
      ((k = 2 ∧ (b != 0) = true) ∨ (k = 2 ∧ b = 0 ∧ (rc != 0) = true) ∨ (k = 2 ∧ b = 0 ∧ rc = 0 ∧ e1 = 0) ∨ (k = 2 ∧ b = 0 ∧ rc = 0 ∧ ((e1 : Int) == 0) = false ∧ o1 = false) ∨ (k = 2 ∧ b = 0 ∧ rc = 0 ∧ ((e1 : Int) == 0) = false ∧ o1 = true ∧ o2 = false)) ∨ ((k == 1) = false ∧ (k == 2) = false))) ∨
    (x = true ∧ ((k = 1 ∧ ¬ b < 1 ∧ ¬ 5 < b ∧ q = true ∧ e1 = 0 ∧ e2 = 0) ∨ (k = 2 ∧ b = 0 ∧ rc = 0 ∧ ((e1 : Int) == 0) = false ∧ o1 = true ∧ o2 = true))) := by
  have hne : ∀ e : Nat, ¬ e = 0 → ((e : Int) == 0) = false := fun e h => beq_eq_false_iff_ne.2 (by omega)
  have hne2 : ∀ e d : Int, ¬ e = d → (e == d) = false := fun e d h => beq_eq_false_iff_ne.2 h
  have hme : ∀ e : Nat, ¬ e = 0 → ((e : Int) != 0) = true := fun e h => by rw [bne, hne e h]; rfl
  have hme2 : ∀ e d : Int, ¬ e = d → (e != d) = true := fun e d h => by rw [bne, hne2 e d h]; rfl
  by_cases h1 : k = 1
  · subst h1
    rw [if_pos rfl] at hx
    by_cases h2 : b < 1
    · left; refine ⟨?_, .inl (.inl ⟨rfl, h2⟩)⟩
      rw [hx, decide_eq_false (by omega)]; rfl
    by_cases h3 : 5 < b
    · left; refine ⟨?_, .inl (.inr (.inl ⟨rfl, h2, h3⟩))⟩
      rw [hx, decide_eq_false (by omega)]; rfl
    rw [decide_eq_true (show 1 ≤ b ∧ b ≤ 5 by omega), Bool.true_and] at hx
    cases q
    · left; exact ⟨hx, .inl (.inr (.inr (.inl ⟨rfl, h2, h3, rfl⟩)))⟩
    rw [Bool.true_and] at hx
    by_cases h4 : e1 = 0
    · rw [decide_eq_true h4, Bool.true_and] at hx
      by_cases h5 : e2 = 0
      · right; rw [decide_eq_true h5] at hx; exact ⟨hx, .inl ⟨rfl, h2, h3, rfl, h4, h5⟩⟩
      · left; rw [decide_eq_false h5] at hx; exact ⟨hx, .inl (.inr (.inr (.inr (.inr ⟨rfl, h2, h3, rfl, h4, hme _ h5⟩))))⟩
    · left; rw [decide_eq_false h4, Bool.false_and] at hx; exact ⟨hx, .inl (.inr (.inr (.inr (.inl ⟨rfl, h2, h3, rfl, hme _ h4⟩))))⟩
  rw [if_neg h1] at hx
  by_cases h2 : k = 2
  · subst h2
    rw [if_pos rfl] at hx
    by_cases h3 : b = 0
    · rw [decide_eq_true h3, Bool.true_and] at hx
      by_cases h4 : rc = 0
      · rw [decide_eq_true h4, Bool.true_and] at hx
        by_cases h5 : e1 = 0
        · rw [decide_eq_true h5] at hx
          left; exact ⟨hx, .inr (.inl (.inr (.inr (.inl ⟨rfl, h3, h4, h5⟩))))⟩
        · rw [decide_eq_false h5] at hx
          cases o1
          · left; exact ⟨hx, .inr (.inl (.inr (.inr (.inr (.inl ⟨rfl, h3, h4, hne _ h5, rfl⟩)))))⟩
          · cases o2
            · left; exact ⟨hx, .inr (.inl (.inr (.inr (.inr (.inr ⟨rfl, h3, h4, hne _ h5, rfl, rfl⟩)))))⟩
            · right; exact ⟨hx, .inr ⟨rfl, h3, h4, hne _ h5, rfl, rfl⟩⟩
      · rw [decide_eq_false h4, Bool.false_and] at hx
        left; exact ⟨hx, .inr (.inl (.inr (.inl ⟨rfl, h3, hme2 _ _ h4⟩)))⟩
    · rw [decide_eq_false h3, Bool.false_and] at hx
      left; exact ⟨hx, .inr (.inl (.inl ⟨rfl, hme2 _ _ h3⟩))⟩
  · rw [if_neg h2] at hx
    left; exact ⟨hx, .inr (.inr ⟨hne2 _ _ h1, hne2 _ _ h2⟩)⟩

set_option maxHeartbeats 8000000 in
set_option maxRecDepth 100000 in
theorem rsteps_any {w0 : World} {Q : Nat → Prop} {ss : List St} {p : Option Addr} {cap : Nat} (h : SsIn w0 Q ss p cap) : ∀ (W : World), Below w0.heap.size w0 W →
    Calls Tryz.prog 50 #[.slice p ss.length cap] W fun e w' => e = .returned (.bool (okSs ss)) ∧ Below W.heap.size W w' := by
  induction h with
  | mk ss p cap b off X hl hc hc2 hp hb hcell hcd hth hel ih1 ih2 =>
    intro W hW
    have HB0 := Lib.hid (Below.refl W.heap.size W)
    obtain ⟨T, hT⟩ : ∃ T, okSs ss = T := ⟨_, rfl⟩
    rw [hT]
    have H0 : Hid (okSs (ss.drop 0) = T) := Lib.hid (by rw [List.drop_zero]; exact hT)
    have HE : Hid (∀ w', Below W.heap.size W w' → ∀ j (h : j < ss.length), p = some ⟨b, off, none⟩ ∧ (∀ i u, (cellsS ss[j] (X j))[i]? = some u → w'.cell? ⟨b, off + j * 8 + i, none⟩ = some u)) := Lib.hid fun w' hb' j hj =>
      ⟨(hb (by rintro rfl; simp at hj)).1, fun i u hu => keepc (hW.trans (hb'.mono hW.size)) (hcell j hj i u hu)⟩
    have HK : Hid (∀ w', Below W.heap.size W w' → ∀ j (h : j < ss.length),
        Calls Tryz.prog 50 #[.slice (X j).pt ss[j].th.length (X j).ct] w' (fun e w2 => e = .returned (.bool (okSs ss[j].th)) ∧ Below w'.heap.size w' w2) ∧
        Calls Tryz.prog 50 #[.slice (X j).pe ss[j].el.length (X j).ce] w' (fun e w2 => e = .returned (.bool (okSs ss[j].el)) ∧ Below w'.heap.size w' w2) ∧
        Calls Tryz.prog 17 #[cV ss[j].c (X j).pc (X j).cc] w' (fun e w2 => e = .returned (.int .i64 (rCond ss[j].c)) ∧ Below w'.heap.size w' w2)) := Lib.hid fun w' hb' j hj => by
      have hbb := hW.trans (hb'.mono hW.size)
      exact ⟨ih1 j hj w' hbb, ih2 j hj w' hbb, rcond_any ((hcd j hj).bel hbb)⟩
    clear ih1 ih2 hcd hth hel hcell hb hW hT
    go_enter Tryz.func50, Tryz.ntmps50
    go_wp2_with fail
    go_loopw [3] (fun i wr => ∃ j : Nat, j ≤ ss.length ∧ i = .int .i64 j ∧ Hid (okSs (ss.drop j) = T) ∧ Hid (Below W.heap.size W wr)) (fun i _ => ss.length - (intOf i).toNat)
    case atStart => exact ⟨0, Nat.zero_le _, rfl, H0, HB0⟩
    case round =>
      obtain ⟨j, hj, rfl, HI, HB⟩ := hrel
      clear H0 HB0
      by_cases hlt : j < ss.length
      · have hji : (j : Int) < (ss.length : Int) := by omega
        obtain ⟨rfl, hcc⟩ := HE.out _ HB.out j hlt
        have HS1 : Hid (okS ss[j] = true → okSs (ss.drop (j + 1)) = T) := Lib.hid fun h => by
          have := HI.out
          rw [(List.getElem_cons_drop hlt).symm, okSs, h, Bool.true_and] at this
          exact this
        have HS2 : Hid (okS ss[j] = false → T = false) := Lib.hid fun h => by
          have := HI.out
          rw [(List.getElem_cons_drop hlt).symm, okSs, h, Bool.false_and] at this
          exact this.symm
        have HK1 := Lib.hid (fun w' hb' => (HK.out w' hb' j hlt).1)
        have HK2 := Lib.hid (fun w' hb' => (HK.out w' hb' j hlt).2.1)
        have HK3 := Lib.hid (fun w' hb' => (HK.out w' hb' j hlt).2.2)
        have HZr : Hid (∀ w', Calls Tryz.prog 102 #[cV ss[j].c (X j).pc (X j).cc] w' fun e w2 => e = .returned (.bool (noB ss[j].c)) ∧ Below w'.heap.size w' w2) := Lib.hid fun w' => rzero_any ss[j].c (X j).pc (X j).cc w'
        have hx := okS_eq ss[j]
        have hem : ∀ l : List St, l.isEmpty = decide (l.length = 0) := fun l => by cases l <;> rfl
        rw [hem, hem] at hx
        have y0 := hcc 0 _ rfl
        have y1 := hcc 1 _ rfl
        have y2 := hcc 2 _ rfl
        have y3 := hcc 3 _ rfl
        have y4 := hcc 4 _ rfl
        have y5 := hcc 5 _ rfl
        have y6 := hcc 6 _ rfl
        have y7 := hcc 7 _ rfl
        clear hcc HE HI HK hem
        unfold cV at HZr HK3
        generalize okS ss[j] = x at *
        generalize okSs ss[j].th = o1 at *
        generalize okSs ss[j].el = o2 at *
        generalize rCond ss[j].c = rc at *
        generalize noB ss[j].c = q at *
        generalize ss[j].k = xk at *
        generalize ss[j].b = xb at *
        generalize ss[j].c.k = x1 at *
        generalize ss[j].c.v = x2 at *
        generalize ss[j].c.n = x3 at *
        generalize ss[j].c.ps.length = x4 at *
        generalize ss[j].th.length = x5 at *
        generalize ss[j].el.length = x6 at *
        generalize X j = xj at *
        obtain ⟨pc, cc, pt, ct, pe, ce⟩ := xj
        simp only [Nat.add_zero] at *
        have HA := Lib.hid (HB.out.alloc HB.out.size (.cells #[.int .i64 xk, .int .i64 xb, .int .i64 x1, .int .i64 x2, .int .i64 x3, .slice pc x4 cc, .slice pt x5 ct, .slice pe x6 ce] 84))
        have HC2 : Hid (∀ w', Below (wr.alloc (.cells #[.int .i64 xk, .int .i64 xb, .int .i64 x1, .int .i64 x2, .int .i64 x3, .slice pc x4 cc, .slice pt x5 ct, .slice pe x6 ce] 84)).heap.size (wr.alloc (.cells #[.int .i64 xk, .int .i64 xb, .int .i64 x1, .int .i64 x2, .int .i64 x3, .slice pc x4 cc, .slice pt x5 ct, .slice pe x6 ce] 84)) w' → w'.cell? ⟨wr.heap.size, 0, none⟩ = some (.int .i64 xk) ∧ w'.cell? ⟨wr.heap.size, 1, none⟩ = some (.int .i64 xb) ∧ w'.cell? ⟨wr.heap.size, 2, none⟩ = some (.int .i64 x1) ∧ w'.cell? ⟨wr.heap.size, 3, none⟩ = some (.int .i64 x2) ∧ w'.cell? ⟨wr.heap.size, 4, none⟩ = some (.int .i64 x3) ∧ w'.cell? ⟨wr.heap.size, 5, none⟩ = some (.slice pc x4 cc) ∧ w'.cell? ⟨wr.heap.size, 6, none⟩ = some (.slice pt x5 ct) ∧ w'.cell? ⟨wr.heap.size, 7, none⟩ = some (.slice pe x6 ce)) := Lib.hid fun w' hb' =>
          ⟨keepc hb' (by simp [go_sem]), keepc hb' (by simp [go_sem]), keepc hb' (by simp [go_sem]), keepc hb' (by simp [go_sem]), keepc hb' (by simp [go_sem]), keepc hb' (by simp [go_sem]), keepc hb' (by simp [go_sem]), keepc hb' (by simp [go_sem])⟩
        have HR := Lib.hid (Below.refl (wr.alloc (.cells #[.int .i64 xk, .int .i64 xb, .int .i64 x1, .int .i64 x2, .int .i64 x3, .slice pc x4 cc, .slice pt x5 ct, .slice pe x6 ce] 84)).heap.size (wr.alloc (.cells #[.int .i64 xk, .int .i64 xb, .int .i64 x1, .int .i64 x2, .int .i64 x3, .slice pc x4 cc, .slice pt x5 ct, .slice pe x6 ce] 84)))
        rcases okS_key xk xb rc q o1 o2 x x5 x6 hx with ⟨rfl, hk⟩ | ⟨rfl, hk⟩
        · obtain rfl := HS2.out rfl
          clear HS1 HS2 hx
          rcases hk with (⟨rfl, h1⟩ | ⟨rfl, h1, h2⟩ | ⟨rfl, h1, h2, rfl⟩ | ⟨rfl, h1, h2, rfl, h3⟩ | ⟨rfl, h1, h2, rfl, rfl, h3⟩) | (⟨rfl, h1⟩ | ⟨rfl, rfl, h1⟩ | ⟨rfl, rfl, rfl, rfl⟩ | ⟨rfl, rfl, rfl, h1, rfl⟩ | ⟨rfl, rfl, rfl, h1, rfl, rfl⟩) | ⟨h1, h2⟩
          all_goals
            go_wp2_with (first
              | (go_at_call 102; (with_reducible refine (HZr.out _).mono ?_); rintro e w3 ⟨rfl, hb⟩; obtain ⟨z0, z1, z2, z3, z4, z5, z6, z7⟩ := HC2.out _ (HR.out.trans (hb.mono HR.out.size)); have HR2 := Lib.hid (HR.out.trans (hb.mono HR.out.size)); clear hb HR; have HR := HR2; clear HR2)
              | (go_at_call 17; (with_reducible refine (HK3.out _ (HA.out.trans (HR.out.mono HA.out.size))).mono ?_); rintro e w4 ⟨rfl, hb⟩; obtain ⟨z0, z1, z2, z3, z4, z5, z6, z7⟩ := HC2.out _ (HR.out.trans (hb.mono HR.out.size)); have HR2 := Lib.hid (HR.out.trans (hb.mono HR.out.size)); clear hb HR; have HR := HR2; clear HR2)
              | (go_at_call 50; (with_reducible refine (HK1.out _ (HA.out.trans (HR.out.mono HA.out.size))).mono ?_); rintro e w1 ⟨rfl, hb⟩; clear HK1; obtain ⟨z0, z1, z2, z3, z4, z5, z6, z7⟩ := HC2.out _ (HR.out.trans (hb.mono HR.out.size)); have HR2 := Lib.hid (HR.out.trans (hb.mono HR.out.size)); clear hb HR; have HR := HR2; clear HR2)
              | (go_at_call 50; (with_reducible refine (HK2.out _ (HA.out.trans (HR.out.mono HA.out.size))).mono ?_); rintro e w2 ⟨rfl, hb⟩; have HR2 := Lib.hid (HR.out.trans (hb.mono HR.out.size)); clear hb HR; have HR := HR2; clear HR2))
            go_ret
            exact ⟨rfl, HA.out.trans (HR.out.mono HA.out.size)⟩
        · have HI2 := Lib.hid (HS1.out rfl)
          clear HS1 HS2 hx
          rcases hk with ⟨rfl, h1, h2, rfl, rfl, rfl⟩ | ⟨rfl, rfl, rfl, h1, rfl, rfl⟩
          all_goals
            go_wp2_with (first
              | (go_at_call 102; (with_reducible refine (HZr.out _).mono ?_); rintro e w3 ⟨rfl, hb⟩; obtain ⟨z0, z1, z2, z3, z4, z5, z6, z7⟩ := HC2.out _ (HR.out.trans (hb.mono HR.out.size)); have HR2 := Lib.hid (HR.out.trans (hb.mono HR.out.size)); clear hb HR; have HR := HR2; clear HR2)
              | (go_at_call 17; (with_reducible refine (HK3.out _ (HA.out.trans (HR.out.mono HA.out.size))).mono ?_); rintro e w4 ⟨rfl, hb⟩; obtain ⟨z0, z1, z2, z3, z4, z5, z6, z7⟩ := HC2.out _ (HR.out.trans (hb.mono HR.out.size)); have HR2 := Lib.hid (HR.out.trans (hb.mono HR.out.size)); clear hb HR; have HR := HR2; clear HR2)
              | (go_at_call 50; (with_reducible refine (HK1.out _ (HA.out.trans (HR.out.mono HA.out.size))).mono ?_); rintro e w1 ⟨rfl, hb⟩; clear HK1; obtain ⟨z0, z1, z2, z3, z4, z5, z6, z7⟩ := HC2.out _ (HR.out.trans (hb.mono HR.out.size)); have HR2 := Lib.hid (HR.out.trans (hb.mono HR.out.size)); clear hb HR; have HR := HR2; clear HR2)
              | (go_at_call 50; (with_reducible refine (HK2.out _ (HA.out.trans (HR.out.mono HA.out.size))).mono ?_); rintro e w2 ⟨rfl, hb⟩; have HR2 := Lib.hid (HR.out.trans (hb.mono HR.out.size)); clear hb HR; have HR := HR2; clear HR2))
            go_round
            case rel => exact ⟨j + 1, by omega, by go_num, HI2, Lib.hid (HA.out.trans (HR.out.mono HA.out.size))⟩
            case measure => simp [intOf]; omega
      · have hji : ¬ (j : Int) < (ss.length : Int) := by omega
        have hT : T = true := by
          have := HI.out
          rw [List.drop_of_length_le (by omega), okSs] at this
          exact this.symm
        subst hT
        clear HE HI HK
        go_wp2_with fail
        go_ret
        exact ⟨rfl, HB.out⟩
end Go.Proofs.YtabdgnigmlpeaaaGreatDoor
