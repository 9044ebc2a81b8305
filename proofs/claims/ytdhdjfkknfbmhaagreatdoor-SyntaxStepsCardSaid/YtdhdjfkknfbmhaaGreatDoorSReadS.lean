/- Steps. -/
import Derived.Test.YtdhdjfkknfbmhaaGreatDoorSRead
import Derived.Test.YtdhdjfkknfbmhaaGreatDoorSCatchS
namespace Go.Proofs.YtdhdjfkknfbmhaaGreatDoor
open Go.RowKit

/-- The offset and the error in their two blocks. -/
structure Duo (w0 w : World) (b : Nat) (a x : Value) : Prop where
  bl : Below w0.heap.size w0 w
  aa : Cells w b [a]
  xx : Cells w (b + 1) [x]
theorem Duo.bel {w0 w w' : World} {b : Nat} {a x : Value} (h : Duo w0 w b a x) (hb : Below w.heap.size w w') : Duo w0 w' b a x := ⟨h.bl.trans (hb.mono h.bl.size), h.aa.bel hb, h.xx.bel hb⟩
theorem Duo.kp {w0 w w' : World} {b pb : Nat} {a x : Value} (h : Duo w0 w b a x) (hk : Kp w w' pb) (h1 : w0.heap.size ≤ pb) (h2 : b + 1 < pb) : Duo w0 w' b a x :=
  ⟨h.bl.trans (hk.below h1 h.bl.size), h.aa.kp hk (by omega), h.xx.kp hk (by omega)⟩
theorem Duo.setA {w0 w : World} {b : Nat} {a x : Value} (h : Duo w0 w b a x) (hb : w0.heap.size ≤ b) (v : Value) : Duo w0 (w.setCell ⟨b, 0, none⟩ v) b v x :=
  ⟨h.bl.setCell (p := ⟨b, 0, none⟩) hb v, h.aa.set 0 v, h.xx.kp (Kp.own w b 0 v) (by omega)⟩
theorem Duo.setX {w0 w : World} {b : Nat} {a x : Value} (h : Duo w0 w b a x) (hb : w0.heap.size ≤ b) (v : Value) : Duo w0 (w.setCell ⟨b + 1, 0, none⟩ v) b a v :=
  ⟨h.bl.setCell (p := ⟨b + 1, 0, none⟩) (Nat.le_succ_of_le hb) v, h.aa.kp (Kp.own w (b + 1) 0 v) (by omega), h.xx.set 0 v⟩
theorem Duo.drew {w0 w : World} {b : Nat} {a x : Value} (h : Duo w0 w b a x) : Duo w0 w.drew b a x := h.bel (Below.refl _ _).drew
theorem Duo.two {w0 w w' : World} {b : Nat} {a x a' x' : Value} (h : Duo w0 w b a x) (hb : w0.heap.size ≤ b) (ht : Two w w' b (b + 1) a' x') : Below w0.heap.size w0 w' ∧ w'.cell? ⟨b, 0, none⟩ = some a' ∧ w'.cell? ⟨b + 1, 0, none⟩ = some x' := by
  refine ⟨⟨ht.os.trans h.bl.os, ht.tape.trans h.bl.tape, ht.output.trans h.bl.output, Nat.le_trans h.bl.size ht.size, fun k hk => ?_⟩, ht.ca, ht.ce⟩
  exact (ht.block k (Nat.lt_of_lt_of_le hk h.bl.size) (by omega) (by omega)).trans (h.bl.block k hk)
theorem SsIn.own {w : World} {Q : Nat → Prop} {ss : List St} {p : Option Addr} {k b : Nat} (h : SsIn w Q ss p k) (hq : ¬ Q b) (o : Nat) (v : Value) : SsIn (w.setCell ⟨b, o, none⟩ v) Q ss p k :=
  h.keep (by simp) fun b' hb' _ => heap_setCell_other _ _ _ _ (by rintro rfl; exact hq hb')

theorem clo_steps (w : World) (pb tb off cap : Nat) (M : Nat → Value) (L : List Tk) (i : Nat) (hG : GlS w) (h : Psr w pb tb off cap M L i) :
    Calls Tryz.prog 32 #[.pointer (some ⟨pb, 0, none⟩)] w fun e w' => EndsT w pb tb off cap M L (stepsS 16 (L.drop i)) e w' := by
  have HU0 := Lib.hid (steps_any 16 0 rfl w pb tb off cap M L i hG h)
  clear h hG
  cases hx : stepsS 16 (L.drop i) with
  | err a x =>
    rw [hx] at HU0
    clear hx
    show Calls _ _ _ _ fun e w' => e = .panicked (failV a x) ∧ Kp w w' pb
    go_enter Tryz.func32, Tryz.ntmps32
    go_wp2_with fail
    go_at_call 33
    refine HU0.out.mono ?_
    rintro e w1 ⟨rfl, hk⟩
    go_wp2_with fail
    exact ⟨rfl, rfl, hk⟩
  | ok c r =>
    rw [hx] at HU0
    clear hx
    go_enter Tryz.func32, Tryz.ntmps32
    go_wp2_with fail
    go_at_call 33
    refine HU0.out.mono ?_
    rintro e w1 ⟨p, k, rfl, hc⟩
    have HC := Lib.hid hc
    clear hc
    go_wp2_with fail
    go_ret
    exact ⟨p, k, rfl, HC.out⟩

set_option maxHeartbeats 4000000 in
set_option maxRecDepth 100000 in
theorem readSt_any (l : Bs) (hl : l.length ≤ 80000) (w : World) (hGl : Gl w) (hG : GlS w) (B : Nat) (p : Option Addr) (cap : Nat) (hp : BAt w B p l) :
    Calls Tryz.prog 31 #[.slice p l.length cap, .func (Fn.func 32) #[] #[]] w fun e w' => Below w.heap.size w w' ∧
      match readS (stepsS 16) l with
      | .no a x => e = .returned (.tuple #[.slice none 0 0, .int .i64 a, .int .i64 x])
      | .yes c => ∃ p k, e = .returned (.tuple #[.slice p c.length k, .int .i64 0, .int .i64 0]) ∧ SsIn w' (fun b => w.heap.size ≤ b) c p k := by
  have hmf : ∀ (fn : Fn) (first cap : Array Value) (w : World), (Instr.makeFunc fn first cap).run Tryz.prog w = .ok (.func fn first cap) w := fun _ _ _ _ => rfl
  obtain ⟨W, hW⟩ : ∃ W, (w.alloc (.cells #[.int .i64 0] 3)).alloc (.cells #[.int .i64 0] 26) = W := ⟨_, rfl⟩
  have hB : Below w.heap.size w W := by
    rw [← hW]
    exact ((Below.refl w.heap.size w).alloc (Nat.le_refl _) _).alloc (by simp) _
  have HZ : Hid (Duo w W w.heap.size (.int .i64 0) (.int .i64 0)) := Lib.hid (by
    have hB' := hB
    rw [← hW] at hB' ⊢
    have h2 := Cells.new w [.int .i64 0] 3 (fun o => by simp [go_sem])
    have h3 := Cells.new (w.alloc (.cells #[.int .i64 0] 3)) [.int .i64 0] 26 (fun o => by simp [go_sem])
    simp only [World.size_alloc] at h3
    exact ⟨hB', h2.bel ((Below.refl _ _).alloc (Nat.le_refl _) _), h3⟩)
  have HW3 : Hid (W.heap.size = w.heap.size + 2) := Lib.hid (by rw [← hW]; simp)
  have HT := Lib.hid (tokens_any l hl W (hGl.bel' hB) B p cap (hp.bel hB (Nat.le_refl _)))
  have HGE := Lib.hid (hG.bel hB)
  have h9w := hG.e.size
  obtain ⟨R, hR⟩ : ∃ R, readS (stepsS 16) l = R := ⟨_, rfl⟩
  rw [hR]
  clear hGl hG hp hB
  by_cases h9 : 65536 < l.length
  · have hRe : R = .no 0 2 := by rw [← hR, readS_eq, if_pos h9]
    subst hRe
    simp only [if_pos h9] at HT
    clear hR
    go_enter_defers Tryz.func31, Tryz.ntmps31
    go_wp2_with fail
    clear hW
    go_at_call 10
    refine HT.out.mono ?_
    rintro e w1 ⟨hb, rfl⟩
    have HZ1 := Lib.hid (HZ.out.bel hb)
    clear hb HZ HT
    have y0 : w1.cell? ⟨w.heap.size, 0, none⟩ = some (.int .i64 0) := HZ1.out.aa.c 0 _ rfl
    have x0 : w1.cell? ⟨w.heap.size + 1, 0, none⟩ = some (.int .i64 0) := HZ1.out.xx.c 0 _ rfl
    have g0 := HZ1.out.aa.fz 0
    have k0 := HZ1.out.xx.fz 0
    go_wp2_with fail
    go_region
    go_wp2_with fail
    have hE := (((HZ1.out.setX (Nat.le_refl _) (.int .i64 2)).setA (Nat.le_refl _) (.int .i64 0)).setX (Nat.le_refl _) (.int .i64 2)).drew
    clear y0 x0 g0 k0 HZ1
    have hB := hE.bl
    have a0 := hE.aa.c 0 _ rfl
    have x0 := hE.xx.c 0 _ rfl
    clear hE
    simp [bodyPostD, Leaves, results, Tryz.results31, go_sem, a0, x0, hB]
  · simp only [if_neg h9] at HT
    have hR2 : readT (stepsS 16) (tokens l).1 (tokens l).2 = R := by rw [← hR, readS_eq, if_neg h9]
    clear hR
    have hsm := tokens_fin l (by omega)
    obtain ⟨L, hL⟩ : ∃ L, (tokens l).1 = L := ⟨_, rfl⟩
    obtain ⟨P, hP⟩ : ∃ P, (tokens l).2 = P := ⟨_, rfl⟩
    rw [hL, hP] at HT
    rw [hL, hP] at hR2
    rw [hL] at hsm
    clear hL hP
    have hlen := hsm.len
    have HSM := Lib.hid hsm
    have HR := Lib.hid hR2
    clear hsm hR2
    go_enter_defers Tryz.func31, Tryz.ntmps31
    go_wp2_with fail
    clear hW
    go_at_call 10
    refine HT.out.mono ?_
    rintro e w1 ⟨hb, v1, v2, rfl, ht, hpr⟩
    have HZ1 := Lib.hid (HZ.out.bel hb)
    obtain ⟨p1, cap1, rfl, hta, hc1, hc2, -⟩ := ht.reads (by rw [List.length_map]; omega) (fun x hx => by
      obtain ⟨y, hy, rfl⟩ := List.mem_map.1 hx
      have := HSM.out.tl y hy
      show y.t.length ≤ _
      omega)
    obtain ⟨p2, cap2, rfl, hpa, hd1, hd2⟩ := hpr.reads
    rw [List.length_map] at hc1
    have HTA := Lib.hid hta
    have HG1 := Lib.hid (HGE.out.bel hb)
    clear hb HZ HT ht hpr hta HGE
    rw [List.length_map]
    have y0 : w1.cell? ⟨w.heap.size, 0, none⟩ = some (.int .i64 0) := HZ1.out.aa.c 0 _ rfl
    have x0 : w1.cell? ⟨w.heap.size + 1, 0, none⟩ = some (.int .i64 0) := HZ1.out.xx.c 0 _ rfl
    have g0 := HZ1.out.aa.fz 0
    have k0 := HZ1.out.xx.fz 0
    cases P with
    | cons b0 r0 =>
      have hRe : R = .no b0 50 := HR.out.symm
      subst hRe
      obtain ⟨bb, bo, rfl, hbb, -, hbc⟩ := hpa (by simp)
      have hW3 := HW3.out
      have q0 : w1.cell? ⟨bb, bo, none⟩ = some (.int .i64 b0) := by have := (hbc 0 (by simp)).1; simpa using this
      have q1 : w1.cell? ⟨bb, bo + 1, none⟩ = some (.int .i64 50) := by have := (hbc 0 (by simp)).2; simpa using this
      have hn1 : (0 : Int) < (((b0 :: r0).length : Nat) : Int) := by simp
      have hn2 : 0 < (b0 :: r0).length := by simp
      clear hpa hbc HR
      generalize (b0 :: r0).length = n2 at *
      have n0 : bb ≠ w.heap.size := by omega
      have n1 : bb ≠ w.heap.size + 1 := by omega
      have n3 : bb ≠ w.heap.size + 1 := by omega
      go_wp2_with fail
      go_region
      all_goals (
        go_wp2_with fail
        have hE := (((HZ1.out.setX (Nat.le_refl _) (.int .i64 0)).setA (Nat.le_refl _) (.int .i64 b0)).setX (Nat.le_refl _) (.int .i64 50)).drew
        clear y0 x0 g0 k0 HZ1
        have hB := hE.bl
        have a0 := hE.aa.c 0 _ rfl
        have x0 := hE.xx.c 0 _ rfl
        clear hE
        simp [bodyPostD, Leaves, results, Tryz.results31, go_sem, a0, x0, hB])
    | nil =>
      clear hpa
      rw [List.length_nil] at hd1 ⊢
      have hW3 := HW3.out
      have hk1 := Kp.own w1 (w.heap.size + 1) 0 (.int .i64 0)
      have HZ2 := Lib.hid (HZ1.out.setX (Nat.le_refl _) (.int .i64 0))
      have HTA2 := Lib.hid (HTA.out.kp hk1 (by omega))
      have h9' : 12 ≤ w1.heap.size := HG1.out.e.size
      have HG2 := Lib.hid (HG1.out.kp hk1 (by omega))
      have hsz : w.heap.size + 1 < w1.heap.size := HZ1.out.xx.lt
      clear hk1 HZ1 HTA HG1
      obtain ⟨W2, hW2⟩ : ∃ W2, w1.setCell ⟨w.heap.size + 1, 0, none⟩ (.int .i64 0) = W2 := ⟨_, rfl⟩
      have hs2 : W2.heap.size = w1.heap.size := by rw [← hW2]; simp
      rw [hW2] at HZ2 HTA2 HG2
      obtain ⟨tb, off, hp1, hp⟩ := Psr.start HTA2.out HSM.out (by omega) hc1 hc2 (by omega)
      rw [hs2] at hp
      have HP3 := Lib.hid hp
      have hB3 := (Below.refl W2.heap.size W2).alloc (Nat.le_refl _) (.cells #[.slice p1 L.length cap1, .map none, .map none, .map none] 131)
      have HZ3 := Lib.hid (HZ2.out.bel hB3)
      have HG3 := Lib.hid (HG2.out.bel hB3)
      have x2 : W2.cell? ⟨w.heap.size + 1, 0, none⟩ = some (.int .i64 0) := HZ2.out.xx.c 0 _ rfl
      clear hB3 hp HZ2 HTA2 HG2 hp1
      go_wp2_with fail
      clear y0 x0 g0 k0 hW2 x2 hs2
      go_at_call 32
      refine (clo_steps _ _ _ _ _ _ _ _ HG3.out HP3.out).mono ?_
      generalize W2.alloc (.cells #[.slice p1 L.length cap1, .map none, .map none, .map none] 131) = W3 at *
      rw [List.drop_zero]
      intro e w4 he
      cases hx : stepsS 16 L with
      | err a x =>
        rw [hx] at he
        obtain ⟨rfl, hk⟩ := he
        have hRe : R = .no a x := HR.out.symm.trans (readT_err hx)
        subst hRe
        have HZE := Lib.hid (HZ3.out.kp hk (by omega) (by omega))
        clear HZ3 HG3 HP3 hk hx HR
        unfold failV
        go_wp2_with fail
        refine leaves_cons (f := 90) (args := #[.pointer (some ⟨w.heap.size, 0, none⟩), .pointer (some ⟨w.heap.size + 1, 0, none⟩)]) (by simp) (by simp [go_sem]) ?_
        refine (catchS_panicking w.heap.size (w.heap.size + 1) [] w4 _ _ (HZE.out.aa.c 0 _ rfl) (HZE.out.xx.c 0 _ rfl) (HZE.out.aa.fz 0) (HZE.out.xx.fz 0) (by omega) _ _).mono ?_
        rintro e u' w'' ⟨rfl, rfl, ht⟩
        obtain ⟨hB, a0, x0⟩ := HZE.out.two (Nat.le_refl _) ht
        clear ht HZE
        simp [Leaves, settle, results, Tryz.results31, go_sem, a0, x0, hB]
      | ok c r =>
        rw [hx] at he
        obtain ⟨pc, kc, rfl, hc, hk, q, hq, hp⟩ := he
        have HZ4 := Lib.hid (HZ3.out.kp hk (by omega) (by omega))
        have hs3 : w.heap.size + 1 < W3.heap.size := HZ3.out.xx.lt
        have HC4 := Lib.hid (hc.mono (Q' := fun b => w.heap.size + 1 < b) fun b hb => by omega)
        have HE := Lib.hid (pend_any _ _ _ _ _ _ _ _ hp)
        rw [hq] at HE
        have HZ5 := HZ4
        have HC5 := HC4
        clear HZ3 HG3 HP3 hk hp hc HC4 HZ4
        go_wp2_with fail
        go_at_call 63
        refine HE.out.mono ?_
        clear HE
        rintro e w6 ⟨he, hb⟩
        have HZE := Lib.hid (HZ5.out.bel hb)
        have HC6 := Lib.hid (HC5.out.bel hb)
        clear hb HZ5 HC5
        cases hk6 : kindS 6 r with
        | false =>
          have hRe : R = .no (atS r) 60 := HR.out.symm.trans (readT_more hx hk6)
          subst hRe
          rw [hk6, if_neg (by decide)] at he
          subst he
          clear hx hk6 HR HC6
          unfold failV
          go_wp2_with fail
          refine leaves_cons (f := 90) (args := #[.pointer (some ⟨w.heap.size, 0, none⟩), .pointer (some ⟨w.heap.size + 1, 0, none⟩)]) (by simp) (by simp [go_sem]) ?_
          refine (catchS_panicking w.heap.size (w.heap.size + 1) [] w6 _ _ (HZE.out.aa.c 0 _ rfl) (HZE.out.xx.c 0 _ rfl) (HZE.out.aa.fz 0) (HZE.out.xx.fz 0) (by omega) _ _).mono ?_
          rintro e u' w'' ⟨rfl, rfl, ht⟩
          obtain ⟨hB, a0, x0⟩ := HZE.out.two (Nat.le_refl _) ht
          clear ht HZE
          simp [Leaves, settle, results, Tryz.results31, go_sem, a0, x0, hB]
        | true =>
          have hRe : R = .yes c := HR.out.symm.trans (readT_end hx hk6)
          subst hRe
          rw [hk6, if_pos rfl] at he
          subst he
          clear hx hk6 HR
          have y0 : w6.cell? ⟨w.heap.size, 0, none⟩ = some (.int .i64 0) := HZE.out.aa.c 0 _ rfl
          have x0 : w6.cell? ⟨w.heap.size + 1, 0, none⟩ = some (.int .i64 0) := HZE.out.xx.c 0 _ rfl
          have g0 := HZE.out.aa.fz 0
          have k0 := HZE.out.xx.fz 0
          go_wp2_with fail
          have h7 := (HZE.out.setA (Nat.le_refl _) (.int .i64 0)).setX (Nat.le_refl _) (.int .i64 0)
          have hq0 : ¬ (w.heap.size + 1 < w.heap.size) := by omega
          have h8 := (HC6.out.own hq0 0 (.int .i64 0)).own (Nat.lt_irrefl _) 0 (.int .i64 0)
          clear y0 x0 g0 k0 HZE HC6
          refine leaves_cons (f := 90) (args := #[.pointer (some ⟨w.heap.size, 0, none⟩), .pointer (some ⟨w.heap.size + 1, 0, none⟩)]) (by simp) (by simp [go_sem]) ?_
          refine (catchS_idle w.heap.size (w.heap.size + 1) _).mono ?_
          rintro e u' w'' ⟨rfl, rfl, hb⟩
          have h9 := h7.bel hb
          have h10 := (h8.bel hb).mono (Q' := fun b => w.heap.size ≤ b) fun b hb => by omega
          have hB := h9.bl
          have a0 := h9.aa.c 0 _ rfl
          have x0 := h9.xx.c 0 _ rfl
          clear h7 h8 h9 hb
          simp [Leaves, settle, results, Tryz.results31, go_sem, a0, x0, hB]
          exact ⟨pc, kc, ⟨rfl, rfl⟩, h10⟩

theorem steps_top (l : Bs) (hl : l.length ≤ 80000) (w : World) (hGl : Gl w) (hG : GlS w) (B : Nat) (p : Option Addr) (cap : Nat) (hp : BAt w B p l) :
    Calls Tryz.prog 13 #[.slice p l.length cap] w fun e w' => Below w.heap.size w w' ∧
      match readS (stepsS 16) l with
      | .no a x => e = .returned (.tuple #[.slice none 0 0, .int .i64 a, .int .i64 x])
      | .yes c => ∃ p k, e = .returned (.tuple #[.slice p c.length k, .int .i64 0, .int .i64 0]) ∧ SsIn w' (fun b => w.heap.size ≤ b) c p k := by
  have hmf : ∀ (fn : Fn) (first cap : Array Value) (w : World), (Instr.makeFunc fn first cap).run Tryz.prog w = .ok (.func fn first cap) w := fun _ _ _ _ => rfl
  have HR := Lib.hid (readSt_any l hl w hGl hG B p cap hp)
  obtain ⟨R, hR⟩ : ∃ R, readS (stepsS 16) l = R := ⟨_, rfl⟩
  rw [hR] at HR ⊢
  clear hGl hG hp hR
  cases R with
  | no a x =>
    dsimp only at HR ⊢
    go_enter Tryz.func13, Tryz.ntmps13
    go_wp2_with fail
    go_at_call 31
    refine HR.out.mono ?_
    rintro e w1 ⟨hb, rfl⟩
    have HB := Lib.hid hb
    clear hb
    go_wp2_with fail
    go_ret3
    exact ⟨HB.out, rfl⟩
  | yes c =>
    dsimp only at HR ⊢
    go_enter Tryz.func13, Tryz.ntmps13
    go_wp2_with fail
    go_at_call 31
    refine HR.out.mono ?_
    rintro e w1 ⟨hb, pc, kc, rfl, hc⟩
    have HB := Lib.hid hb
    have HC := Lib.hid hc
    clear hb hc
    go_wp2_with fail
    go_ret3
    exact ⟨HB.out, pc, kc, rfl, HC.out⟩
end Go.Proofs.YtdhdjfkknfbmhaaGreatDoor
