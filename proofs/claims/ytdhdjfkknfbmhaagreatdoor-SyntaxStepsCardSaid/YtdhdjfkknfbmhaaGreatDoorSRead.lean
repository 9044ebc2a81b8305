/- Condition. -/
import Derived.Test.YtdhdjfkknfbmhaaGreatDoorSFin
import Derived.Test.YtdhdjfkknfbmhaaGreatDoorSCatch
namespace Go.Proofs.YtdhdjfkknfbmhaaGreatDoor
open Go.RowKit

/-- Reading the tokens. -/
def readT {α : Type} (parse : P α) (L : List Tk) : List Nat → Read α
  | b :: _ => .no b 50
  | [] => match endS (parse L) with
    | .err a e => .no a e
    | .ok a _ => .yes a
theorem readS_eq {α : Type} (parse : P α) (l : Bs) : readS parse l = if 65536 < l.length then .no 0 2 else readT parse (tokens l).1 (tokens l).2 := by
  unfold readS readT
  by_cases h : 65536 < l.length
  · rw [if_pos h, if_pos h]
  · rw [if_neg h, if_neg h]
    cases (tokens l).2 <;> rfl

theorem readT_err {α : Type} {parse : P α} {L : List Tk} {a : Nat} {x : Int} (h : parse L = .err a x) : readT parse L [] = .no a x := by unfold readT endS; rw [h]; rfl
theorem readT_end {α : Type} {parse : P α} {L r : List Tk} {c : α} (h : parse L = .ok c r) (hk : kindS 6 r = true) : readT parse L [] = .yes c := by
  unfold readT endS; rw [h]; simp only [PR.bind]; rw [if_pos hk]
theorem readT_more {α : Type} {parse : P α} {L r : List Tk} {c : α} (h : parse L = .ok c r) (hk : kindS 6 r = false) : readT parse L [] = .no (atS r) 60 := by
  unfold readT endS; rw [h]; simp only [PR.bind]; rw [if_neg (by rw [hk]; decide)]; rfl
theorem TAt.kp {w w' : World} {B pb : Nat} {p : Option Addr} {L : List Tok} (h : TAt w B p L) (hk : Kp w w' pb) (hb : pb < B) : TAt w' B p L := ⟨h.len, h.tl, fun hl => by
    obtain ⟨b, off, h1, h2, h3, h4⟩ := h.at' hl
    have hc := fun o => World.cell?_of_block (a := ⟨b, o, none⟩) (hk.block b h3 (by omega))
    exact ⟨b, off, h1, h2, Nat.lt_of_lt_of_le h3 hk.size, fun i hi => ⟨(hc _).trans (h4 i hi).1, (hc _).trans (h4 i hi).2.1, (hc _).trans (h4 i hi).2.2⟩⟩⟩
theorem Psr.start {w : World} {B n cap : Nat} {p : Option Addr} {L : List Tk} (h : TAt w B p (L.map Tk.tok)) (hs : Small n L) (hn : n + 1 ≤ 100000) (hc : L.length ≤ cap) (hc2 : cap ≤ 9223372036854775807) (h9 : 12 ≤ w.heap.size) :
    ∃ tb off, p = some ⟨tb, off, none⟩ ∧ Psr (w.alloc (.cells #[.slice p L.length cap, .map none, .map none, .map none] 131)) w.heap.size tb off cap (fun _ => .map none) L 0 := by
  obtain ⟨tb, off, rfl, hB, hlt, hx⟩ := h.at' (by rw [ne_eq, List.map_eq_nil_iff]; exact hs.f.ne)
  have hb := (Below.refl w.heap.size w).alloc (Nat.le_refl _) (.cells #[.slice (some ⟨tb, off, none⟩) L.length cap, .map none, .map none, .map none] 131)
  have hc0 := fun o => hb.cell (p := ⟨tb, o, none⟩) hlt
  have hpos := List.length_pos_iff.2 hs.f.ne
  refine ⟨tb, off, rfl, by simp, h9, by omega, Nat.lt_of_lt_of_le hlt hb.size, hpos, hc, hc2, by have := hs.len; omega, fun o => by simp [go_sem], by simp [go_sem], fun o ho => ?_, fun j hj => ?_, hs.f.fin, hs.tl⟩
  · match o, ho with
    | 0, _ => simp [go_sem]
    | 1, _ => simp [go_sem]
    | 2, _ => simp [go_sem]
  · have := hx j (by rw [List.length_map]; exact hj)
    rw [hc0, hc0, hc0]
    simpa [Tk.tok] using this

theorem CdIn.own {w : World} {Q : Nat → Prop} {c : Cd} {p : Option Addr} {k b : Nat} (h : CdIn w Q c p k) (hq : ¬ Q b) (o : Nat) (v : Value) : CdIn (w.setCell ⟨b, o, none⟩ v) Q c p k :=
  h.keep (by simp) fun b' hb' _ => heap_setCell_other _ _ _ _ (by rintro rfl; exact hq hb')

/-- The result of read in its three blocks: the value, the offset, the error. -/
structure Three (w0 w : World) (b : Nat) (l : List Value) (a x : Value) : Prop where
  bl : Below w0.heap.size w0 w
  cc : Cells w b l
  aa : Cells w (b + 1) [a]
  xx : Cells w (b + 1 + 1) [x]
theorem Three.bel {w0 w w' : World} {b : Nat} {l : List Value} {a x : Value} (h : Three w0 w b l a x) (hb : Below w.heap.size w w') : Three w0 w' b l a x := ⟨h.bl.trans (hb.mono h.bl.size), h.cc.bel hb, h.aa.bel hb, h.xx.bel hb⟩
theorem Three.kp {w0 w w' : World} {b pb : Nat} {l : List Value} {a x : Value} (h : Three w0 w b l a x) (hk : Kp w w' pb) (h1 : w0.heap.size ≤ pb) (h2 : b + 1 + 1 < pb) : Three w0 w' b l a x :=
  ⟨h.bl.trans (hk.below h1 h.bl.size), h.cc.kp hk (by omega), h.aa.kp hk (by omega), h.xx.kp hk (by omega)⟩
theorem Three.set0 {w0 w : World} {b : Nat} {l : List Value} {a x : Value} (h : Three w0 w b l a x) (hb : w0.heap.size ≤ b) (o : Nat) (v : Value) : Three w0 (w.setCell ⟨b, o, none⟩ v) b (l.set o v) a x :=
  ⟨h.bl.setCell (p := ⟨b, o, none⟩) hb v, h.cc.set o v, h.aa.kp (Kp.own w b o v) (by omega), h.xx.kp (Kp.own w b o v) (by omega)⟩
theorem Three.setA {w0 w : World} {b : Nat} {l : List Value} {a x : Value} (h : Three w0 w b l a x) (hb : w0.heap.size ≤ b) (v : Value) : Three w0 (w.setCell ⟨b + 1, 0, none⟩ v) b l v x :=
  ⟨h.bl.setCell (p := ⟨b + 1, 0, none⟩) (Nat.le_succ_of_le hb) v, h.cc.kp (Kp.own w (b + 1) 0 v) (by omega), h.aa.set 0 v, h.xx.kp (Kp.own w (b + 1) 0 v) (by omega)⟩
theorem Three.setX {w0 w : World} {b : Nat} {l : List Value} {a x : Value} (h : Three w0 w b l a x) (hb : w0.heap.size ≤ b) (v : Value) : Three w0 (w.setCell ⟨b + 1 + 1, 0, none⟩ v) b l a v :=
  ⟨h.bl.setCell (p := ⟨b + 1 + 1, 0, none⟩) (by show _ ≤ b + 1 + 1; omega) v, h.cc.kp (Kp.own w (b + 1 + 1) 0 v) (by omega), h.aa.kp (Kp.own w (b + 1 + 1) 0 v) (by omega), h.xx.set 0 v⟩
theorem Three.drew {w0 w : World} {b : Nat} {l : List Value} {a x : Value} (h : Three w0 w b l a x) : Three w0 w.drew b l a x := h.bel (Below.refl _ _).drew
theorem Three.two {w0 w w' : World} {b : Nat} {l : List Value} {a x a' x' : Value} (h : Three w0 w b l a x) (hb : w0.heap.size ≤ b) (ht : Two w w' (b + 1) (b + 1 + 1) a' x') : Below w0.heap.size w0 w' ∧ Cells w' b l ∧ w'.cell? ⟨b + 1, 0, none⟩ = some a' ∧ w'.cell? ⟨b + 1 + 1, 0, none⟩ = some x' := by
  refine ⟨⟨ht.os.trans h.bl.os, ht.tape.trans h.bl.tape, ht.output.trans h.bl.output, Nat.le_trans h.bl.size ht.size, fun k hk => ?_⟩, ?_, ht.ca, ht.ce⟩
  · exact (ht.block k (Nat.lt_of_lt_of_le hk h.bl.size) (by omega) (by omega)).trans (h.bl.block k hk)
  · have hh := ht.block b h.cc.lt (by omega) (by omega)
    exact ⟨Nat.lt_of_lt_of_le h.cc.lt ht.size, fun j u hj => (World.cell?_of_block (a := ⟨b, j, none⟩) hh).trans (h.cc.c j u hj), fun o => (World.frozen?_of_block (a := ⟨b, o, none⟩) hh).trans (h.cc.fz o)⟩

theorem clo_cond (w : World) (pb tb off cap : Nat) (M : Nat → Value) (L : List Tk) (i : Nat) (hG : GlE w) (h : Psr w pb tb off cap M L i) :
    Calls Tryz.prog 35 #[.pointer (some ⟨pb, 0, none⟩)] w fun e w' => EndsC w pb tb off cap M L (condS 16 (L.drop i)) e w' := by
  have HA0 := Lib.hid ((Below.refl w.heap.size w).alloc (Nat.le_refl _) (.cells #[.int .i64 0, .int .i64 0, .int .i64 0, .slice none 0 0] 49))
  have HZ0 := Lib.hid (Z4.new w)
  have HK0 := Lib.hid (Kp.ofBelow (sb := pb) HA0.out (Nat.le_refl _))
  have HU0 := Lib.hid (cond_any _ pb tb off cap M L i (hG.bel HA0.out) (h.bel HA0.out (Nat.le_refl _)))
  have hpb := h.lt
  have htb := h.tlt
  clear h hG
  cases hx : condS 16 (L.drop i) with
  | err a x =>
    rw [hx] at HU0
    clear hx
    show Calls _ _ _ _ fun e w' => e = .panicked (failV a x) ∧ Kp w w' pb
    go_enter Tryz.func35, Tryz.ntmps35
    go_wp2_with fail
    go_at_call 36
    refine HU0.out.mono ?_
    rintro e w1 ⟨rfl, hk⟩
    go_wp2_with fail
    exact ⟨rfl, rfl, HK0.out.trans hk⟩
  | ok c r =>
    rw [hx] at HU0
    clear hx
    go_enter Tryz.func35, Tryz.ntmps35
    go_wp2_with fail
    go_at_call 36
    refine HU0.out.mono ?_
    rintro e w1 ⟨p, k, rfl, hc, hk, q, rfl, hp⟩
    have HZ := Lib.hid (HZ0.out.kp hk (by omega))
    have HK := Lib.hid (HK0.out.trans hk)
    rw [World.size_alloc] at hc
    have HC := Lib.hid hc
    have HP := Lib.hid hp
    clear hc hk hp HZ0 HK0 HA0 HU0
    obtain ⟨u0, u1, u2, u3, z0, z1, z2, z3⟩ := HZ.out.ex
    have f0 := HZ.out.fz 0
    have f1 := HZ.out.fz 1
    have f2 := HZ.out.fz 2
    have f3 := HZ.out.fz 3
    unfold cV
    go_wp2_with fail
    have HX := HZ.out.put (.int .i64 c.k) (.int .i64 c.v) (.int .i64 c.n) (.slice p c.ps.length k)
    unfold put4 at HX
    obtain ⟨c0, c1, c2, c3⟩ := HX
    refine bodyPost_ret (v := .agg #[.int .i64 c.k, .int .i64 c.v, .int .i64 c.n, .slice p c.ps.length k]) ?_ rfl (put4_end hpb htb HP.out HK.out HC.out _ _ _ _)
    simp [results, Tryz.results35, go_sem, c0, c1, c2, c3]

set_option maxHeartbeats 4000000 in
set_option maxRecDepth 100000 in
theorem readC_any (l : Bs) (hl : l.length ≤ 80000) (w : World) (hGl : Gl w) (hG : GlE w) (B : Nat) (p : Option Addr) (cap : Nat) (hp : BAt w B p l) :
    Calls Tryz.prog 34 #[.slice p l.length cap, .func (Fn.func 35) #[] #[]] w fun e w' => Below w.heap.size w w' ∧
      match readS (condS 16) l with
      | .no a x => e = .returned (.tuple #[.agg #[.int .i64 0, .int .i64 0, .int .i64 0, .slice none 0 0], .int .i64 a, .int .i64 x])
      | .yes c => ∃ p k, e = .returned (.tuple #[cV c p k, .int .i64 0, .int .i64 0]) ∧ CdIn w' (fun b => w.heap.size ≤ b) c p k := by
  have hmf : ∀ (fn : Fn) (first cap : Array Value) (w : World), (Instr.makeFunc fn first cap).run Tryz.prog w = .ok (.func fn first cap) w := fun _ _ _ _ => rfl
  obtain ⟨W, hW⟩ : ∃ W, ((w.alloc (.cells #[.int .i64 0, .int .i64 0, .int .i64 0, .slice none 0 0] 49)).alloc (.cells #[.int .i64 0] 3)).alloc (.cells #[.int .i64 0] 26) = W := ⟨_, rfl⟩
  have hB : Below w.heap.size w W := by
    rw [← hW]
    exact (((Below.refl w.heap.size w).alloc (Nat.le_refl _) _).alloc (by simp) _).alloc (by simp only [World.size_alloc]; omega) _
  have HZ : Hid (Three w W w.heap.size [.int .i64 0, .int .i64 0, .int .i64 0, .slice none 0 0] (.int .i64 0) (.int .i64 0)) := Lib.hid (by
    have hB' := hB
    rw [← hW] at hB' ⊢
    have h1 := Cells.new w [.int .i64 0, .int .i64 0, .int .i64 0, .slice none 0 0] 49 (fun o => by simp [go_sem])
    have h2 := Cells.new (w.alloc (.cells #[.int .i64 0, .int .i64 0, .int .i64 0, .slice none 0 0] 49)) [.int .i64 0] 3 (fun o => by simp [go_sem])
    have h3 := Cells.new ((w.alloc (.cells #[.int .i64 0, .int .i64 0, .int .i64 0, .slice none 0 0] 49)).alloc (.cells #[.int .i64 0] 3)) [.int .i64 0] 26 (fun o => by simp [go_sem])
    simp only [World.size_alloc] at h2 h3
    exact ⟨hB', (h1.bel ((Below.refl _ _).alloc (Nat.le_refl _) _)).bel ((Below.refl _ _).alloc (Nat.le_refl _) _), h2.bel ((Below.refl _ _).alloc (Nat.le_refl _) _), h3⟩)
  have HW3 : Hid (W.heap.size = w.heap.size + 3) := Lib.hid (by rw [← hW]; simp)
  have HT := Lib.hid (tokens_any l hl W (hGl.bel' hB) B p cap (hp.bel hB (Nat.le_refl _)))
  have HGE := Lib.hid (hG.bel hB)
  have h9w := hG.size
  obtain ⟨R, hR⟩ : ∃ R, readS (condS 16) l = R := ⟨_, rfl⟩
  rw [hR]
  clear hGl hG hp hB
  by_cases h9 : 65536 < l.length
  · have hRe : R = .no 0 2 := by rw [← hR, readS_eq, if_pos h9]
    subst hRe
    simp only [if_pos h9] at HT
    clear hR
    go_enter_defers Tryz.func34, Tryz.ntmps34
    go_wp2_with fail
    clear hW
    go_at_call 10
    refine HT.out.mono ?_
    rintro e w1 ⟨hb, rfl⟩
    have HZ1 := Lib.hid (HZ.out.bel hb)
    clear hb HZ HT
    have z0 : w1.cell? ⟨w.heap.size, 0, none⟩ = some (.int .i64 0) := HZ1.out.cc.c 0 _ rfl
    have z1 : w1.cell? ⟨w.heap.size, 1, none⟩ = some (.int .i64 0) := HZ1.out.cc.c 1 _ rfl
    have z2 : w1.cell? ⟨w.heap.size, 2, none⟩ = some (.int .i64 0) := HZ1.out.cc.c 2 _ rfl
    have z3 : w1.cell? ⟨w.heap.size, 3, none⟩ = some (.slice none 0 0) := HZ1.out.cc.c 3 _ rfl
    have y0 : w1.cell? ⟨w.heap.size + 1, 0, none⟩ = some (.int .i64 0) := HZ1.out.aa.c 0 _ rfl
    have x0 : w1.cell? ⟨w.heap.size + 1 + 1, 0, none⟩ = some (.int .i64 0) := HZ1.out.xx.c 0 _ rfl
    have f0 := HZ1.out.cc.fz 0
    have f1 := HZ1.out.cc.fz 1
    have f2 := HZ1.out.cc.fz 2
    have f3 := HZ1.out.cc.fz 3
    have g0 := HZ1.out.aa.fz 0
    have k0 := HZ1.out.xx.fz 0
    go_wp2_with fail
    go_region
    go_wp2_with fail
    have hE := (((((((HZ1.out.setX (Nat.le_refl _) (.int .i64 2)).set0 (Nat.le_refl _) 0 (.int .i64 0)).set0 (Nat.le_refl _) 1 (.int .i64 0)).set0 (Nat.le_refl _) 2 (.int .i64 0)).set0 (Nat.le_refl _) 3 (.slice none 0 0)).setA (Nat.le_refl _) (.int .i64 0)).setX (Nat.le_refl _) (.int .i64 2)).drew
    clear z0 z1 z2 z3 y0 x0 f0 f1 f2 f3 g0 k0 HZ1
    have hB := hE.bl
    have c0 := hE.cc.c 0 _ rfl
    have c1 := hE.cc.c 1 _ rfl
    have c2 := hE.cc.c 2 _ rfl
    have c3 := hE.cc.c 3 _ rfl
    have a0 := hE.aa.c 0 _ rfl
    have x0 := hE.xx.c 0 _ rfl
    clear hE
    simp [bodyPostD, Leaves, results, Tryz.results34, go_sem, c0, c1, c2, c3, a0, x0, hB]
  · simp only [if_neg h9] at HT
    have hR2 : readT (condS 16) (tokens l).1 (tokens l).2 = R := by rw [← hR, readS_eq, if_neg h9]
    clear hR
    have hsm := tokens_fin l (by omega)
    obtain ⟨L, hL⟩ : ∃ L, (tokens l).1 = L := ⟨_, rfl⟩
    obtain ⟨P, hP⟩ : ∃ P, (tokens l).2 = P := ⟨_, rfl⟩
    rw [hL, hP] at HT
    rw [hL, hP] at hR2
    rw [hL] at hsm
    clear hL hP
    have hlen := hsm.len
    have HSM := Lib.hid hsm
    have HR := Lib.hid hR2
    clear hsm hR2
    go_enter_defers Tryz.func34, Tryz.ntmps34
    go_wp2_with fail
    clear hW
    go_at_call 10
    refine HT.out.mono ?_
    rintro e w1 ⟨hb, v1, v2, rfl, ht, hpr⟩
    have HZ1 := Lib.hid (HZ.out.bel hb)
    obtain ⟨p1, cap1, rfl, hta, hc1, hc2, -⟩ := ht.reads (by rw [List.length_map]; omega) (fun x hx => by
      obtain ⟨y, hy, rfl⟩ := List.mem_map.1 hx
      have := HSM.out.tl y hy
      show y.t.length ≤ _
      omega)
    obtain ⟨p2, cap2, rfl, hpa, hd1, hd2⟩ := hpr.reads
    rw [List.length_map] at hc1
    have HTA := Lib.hid hta
    have HG1 := Lib.hid (HGE.out.bel hb)
    clear hb HZ HT ht hpr hta HGE
    rw [List.length_map]
    have z0 : w1.cell? ⟨w.heap.size, 0, none⟩ = some (.int .i64 0) := HZ1.out.cc.c 0 _ rfl
    have z1 : w1.cell? ⟨w.heap.size, 1, none⟩ = some (.int .i64 0) := HZ1.out.cc.c 1 _ rfl
    have z2 : w1.cell? ⟨w.heap.size, 2, none⟩ = some (.int .i64 0) := HZ1.out.cc.c 2 _ rfl
    have z3 : w1.cell? ⟨w.heap.size, 3, none⟩ = some (.slice none 0 0) := HZ1.out.cc.c 3 _ rfl
    have y0 : w1.cell? ⟨w.heap.size + 1, 0, none⟩ = some (.int .i64 0) := HZ1.out.aa.c 0 _ rfl
    have x0 : w1.cell? ⟨w.heap.size + 1 + 1, 0, none⟩ = some (.int .i64 0) := HZ1.out.xx.c 0 _ rfl
    have f0 := HZ1.out.cc.fz 0
    have f1 := HZ1.out.cc.fz 1
    have f2 := HZ1.out.cc.fz 2
    have f3 := HZ1.out.cc.fz 3
    have g0 := HZ1.out.aa.fz 0
    have k0 := HZ1.out.xx.fz 0
    cases P with
    | cons b0 r0 =>
      have hRe : R = .no b0 50 := HR.out.symm
      subst hRe
      obtain ⟨bb, bo, rfl, hbb, -, hbc⟩ := hpa (by simp)
      have hW3 := HW3.out
      have q0 : w1.cell? ⟨bb, bo, none⟩ = some (.int .i64 b0) := by have := (hbc 0 (by simp)).1; simpa using this
      have q1 : w1.cell? ⟨bb, bo + 1, none⟩ = some (.int .i64 50) := by have := (hbc 0 (by simp)).2; simpa using this
      have hn1 : (0 : Int) < (((b0 :: r0).length : Nat) : Int) := by simp
      have hn2 : 0 < (b0 :: r0).length := by simp
      clear hpa hbc HR
      generalize (b0 :: r0).length = n2 at *
      have n0 : bb ≠ w.heap.size := by omega
      have n1 : bb ≠ w.heap.size + 1 := by omega
      have n3 : bb ≠ w.heap.size + 1 + 1 := by omega
      go_wp2_with fail
      go_region
      all_goals (
        go_wp2_with fail
        have hE := (((((((HZ1.out.setX (Nat.le_refl _) (.int .i64 0)).set0 (Nat.le_refl _) 0 (.int .i64 0)).set0 (Nat.le_refl _) 1 (.int .i64 0)).set0 (Nat.le_refl _) 2 (.int .i64 0)).set0 (Nat.le_refl _) 3 (.slice none 0 0)).setA (Nat.le_refl _) (.int .i64 b0)).setX (Nat.le_refl _) (.int .i64 50)).drew
        clear z0 z1 z2 z3 y0 x0 f0 f1 f2 f3 g0 k0 HZ1
        have hB := hE.bl
        have c0 := hE.cc.c 0 _ rfl
        have c1 := hE.cc.c 1 _ rfl
        have c2 := hE.cc.c 2 _ rfl
        have c3 := hE.cc.c 3 _ rfl
        have a0 := hE.aa.c 0 _ rfl
        have x0 := hE.xx.c 0 _ rfl
        clear hE
        simp [bodyPostD, Leaves, results, Tryz.results34, go_sem, c0, c1, c2, c3, a0, x0, hB])
    | nil =>
      clear hpa
      rw [List.length_nil] at hd1 ⊢
      have hW3 := HW3.out
      have hk1 := Kp.own w1 (w.heap.size + 1 + 1) 0 (.int .i64 0)
      have HZ2 := Lib.hid (HZ1.out.setX (Nat.le_refl _) (.int .i64 0))
      have HTA2 := Lib.hid (HTA.out.kp hk1 (by omega))
      have h9' : 12 ≤ w1.heap.size := HG1.out.size
      have HG2 := Lib.hid (HG1.out.kp hk1 (by omega))
      have hsz : w.heap.size + 1 + 1 < w1.heap.size := HZ1.out.xx.lt
      clear hk1 HZ1 HTA HG1
      obtain ⟨W2, hW2⟩ : ∃ W2, w1.setCell ⟨w.heap.size + 1 + 1, 0, none⟩ (.int .i64 0) = W2 := ⟨_, rfl⟩
      have hs2 : W2.heap.size = w1.heap.size := by rw [← hW2]; simp
      rw [hW2] at HZ2 HTA2 HG2
      obtain ⟨tb, off, hp1, hp⟩ := Psr.start HTA2.out HSM.out (by omega) hc1 hc2 (by omega)
      rw [hs2] at hp
      have HP3 := Lib.hid hp
      have hB3 := (Below.refl W2.heap.size W2).alloc (Nat.le_refl _) (.cells #[.slice p1 L.length cap1, .map none, .map none, .map none] 131)
      have HZ3 := Lib.hid (HZ2.out.bel hB3)
      have HG3 := Lib.hid (HG2.out.bel hB3)
      have x2 : W2.cell? ⟨w.heap.size + 1 + 1, 0, none⟩ = some (.int .i64 0) := HZ2.out.xx.c 0 _ rfl
      clear hB3 hp HZ2 HTA2 HG2 hp1
      go_wp2_with fail
      clear z0 z1 z2 z3 y0 x0 f0 f1 f2 f3 g0 k0 hW2 x2 hs2
      go_at_call 35
      refine (clo_cond _ _ _ _ _ _ _ _ HG3.out HP3.out).mono ?_
      generalize W2.alloc (.cells #[.slice p1 L.length cap1, .map none, .map none, .map none] 131) = W3 at *
      rw [List.drop_zero]
      intro e w4 he
      cases hx : condS 16 L with
      | err a x =>
        rw [hx] at he
        obtain ⟨rfl, hk⟩ := he
        have hRe : R = .no a x := HR.out.symm.trans (readT_err hx)
        subst hRe
        have HZE := Lib.hid (HZ3.out.kp hk (by omega) (by omega))
        clear HZ3 HG3 HP3 hk hx HR
        unfold failV
        go_wp2_with fail
        refine leaves_cons (f := 95) (args := #[.pointer (some ⟨w.heap.size + 1, 0, none⟩), .pointer (some ⟨w.heap.size + 1 + 1, 0, none⟩)]) (by simp) (by simp [go_sem]) ?_
        refine (catchC_panicking (w.heap.size + 1) (w.heap.size + 1 + 1) [] w4 _ _ (HZE.out.aa.c 0 _ rfl) (HZE.out.xx.c 0 _ rfl) (HZE.out.aa.fz 0) (HZE.out.xx.fz 0) (by omega) _ _).mono ?_
        rintro e u' w'' ⟨rfl, rfl, ht⟩
        obtain ⟨hB, hcc, a0, x0⟩ := HZE.out.two (Nat.le_refl _) ht
        have c0 := hcc.c 0 _ rfl
        have c1 := hcc.c 1 _ rfl
        have c2 := hcc.c 2 _ rfl
        have c3 := hcc.c 3 _ rfl
        clear hcc ht HZE
        simp [Leaves, settle, results, Tryz.results34, go_sem, c0, c1, c2, c3, a0, x0, hB]
      | ok c r =>
        rw [hx] at he
        obtain ⟨pc, kc, rfl, hc, hk, q, hq, hp⟩ := he
        have HZ4 := Lib.hid (HZ3.out.kp hk (by omega) (by omega))
        have hs3 : w.heap.size + 1 + 1 < W3.heap.size := HZ3.out.xx.lt
        have HC4 := Lib.hid (hc.mono (Q' := fun b => w.heap.size + 1 + 1 < b) fun b hb => by omega)
        have HP4 := Lib.hid hp
        have hB4 := (Below.refl w4.heap.size w4).alloc (Nat.le_refl _) (.cells #[.int .i64 c.k, .int .i64 c.v, .int .i64 c.n, .slice pc c.ps.length kc] 49)
        have HPD : Hid (Cells (w4.alloc (.cells #[.int .i64 c.k, .int .i64 c.v, .int .i64 c.n, .slice pc c.ps.length kc] 49)) w4.heap.size [.int .i64 c.k, .int .i64 c.v, .int .i64 c.n, .slice pc c.ps.length kc]) := Lib.hid (Cells.new w4 _ 49 fun o => by simp [go_sem])
        have HE := Lib.hid (pend_any _ _ _ _ _ _ _ _ (hp.bel hB4 (Nat.le_refl _)))
        rw [hq] at HE
        have HZ5 := Lib.hid (HZ4.out.bel hB4)
        have HC5 := Lib.hid (HC4.out.bel hB4)
        have hpbz : w1.heap.size < w4.heap.size := hp.lt
        clear HZ3 HG3 HP3 hk hp hc hB4 HC4 HP4 HZ4
        unfold cV
        go_wp2_with fail
        generalize w4.alloc (.cells #[.int .i64 c.k, .int .i64 c.v, .int .i64 c.n, .slice pc c.ps.length kc] 49) = w5 at *
        go_at_call 63
        refine HE.out.mono ?_
        clear HE
        rintro e w6 ⟨he, hb⟩
        have HZE := Lib.hid (HZ5.out.bel hb)
        have HC6 := Lib.hid (HC5.out.bel hb)
        have HPD6 := Lib.hid (HPD.out.bel hb)
        clear hb HZ5 HC5 HPD
        cases hk6 : kindS 6 r with
        | false =>
          have hRe : R = .no (atS r) 60 := HR.out.symm.trans (readT_more hx hk6)
          subst hRe
          rw [hk6, if_neg (by decide)] at he
          subst he
          clear hx hk6 HR HC6 HPD6
          unfold failV
          go_wp2_with fail
          refine leaves_cons (f := 95) (args := #[.pointer (some ⟨w.heap.size + 1, 0, none⟩), .pointer (some ⟨w.heap.size + 1 + 1, 0, none⟩)]) (by simp) (by simp [go_sem]) ?_
          refine (catchC_panicking (w.heap.size + 1) (w.heap.size + 1 + 1) [] w6 _ _ (HZE.out.aa.c 0 _ rfl) (HZE.out.xx.c 0 _ rfl) (HZE.out.aa.fz 0) (HZE.out.xx.fz 0) (by omega) _ _).mono ?_
          rintro e u' w'' ⟨rfl, rfl, ht⟩
          obtain ⟨hB, hcc, a0, x0⟩ := HZE.out.two (Nat.le_refl _) ht
          have c0 := hcc.c 0 _ rfl
          have c1 := hcc.c 1 _ rfl
          have c2 := hcc.c 2 _ rfl
          have c3 := hcc.c 3 _ rfl
          clear hcc ht HZE
          simp [Leaves, settle, results, Tryz.results34, go_sem, c0, c1, c2, c3, a0, x0, hB]
        | true =>
          have hRe : R = .yes c := HR.out.symm.trans (readT_end hx hk6)
          subst hRe
          rw [hk6, if_pos rfl] at he
          subst he
          clear hx hk6 HR
          have z0 : w6.cell? ⟨w.heap.size, 0, none⟩ = some (.int .i64 0) := HZE.out.cc.c 0 _ rfl
          have z1 : w6.cell? ⟨w.heap.size, 1, none⟩ = some (.int .i64 0) := HZE.out.cc.c 1 _ rfl
          have z2 : w6.cell? ⟨w.heap.size, 2, none⟩ = some (.int .i64 0) := HZE.out.cc.c 2 _ rfl
          have z3 : w6.cell? ⟨w.heap.size, 3, none⟩ = some (.slice none 0 0) := HZE.out.cc.c 3 _ rfl
          have y0 : w6.cell? ⟨w.heap.size + 1, 0, none⟩ = some (.int .i64 0) := HZE.out.aa.c 0 _ rfl
          have x0 : w6.cell? ⟨w.heap.size + 1 + 1, 0, none⟩ = some (.int .i64 0) := HZE.out.xx.c 0 _ rfl
          have f0 := HZE.out.cc.fz 0
          have f1 := HZE.out.cc.fz 1
          have f2 := HZE.out.cc.fz 2
          have f3 := HZE.out.cc.fz 3
          have g0 := HZE.out.aa.fz 0
          have k0 := HZE.out.xx.fz 0
          have d0 : w6.cell? ⟨w4.heap.size, 0, none⟩ = some (.int .i64 c.k) := HPD6.out.c 0 _ rfl
          have d1 : w6.cell? ⟨w4.heap.size, 1, none⟩ = some (.int .i64 c.v) := HPD6.out.c 1 _ rfl
          have d2 : w6.cell? ⟨w4.heap.size, 2, none⟩ = some (.int .i64 c.n) := HPD6.out.c 2 _ rfl
          have d3 : w6.cell? ⟨w4.heap.size, 3, none⟩ = some (.slice pc c.ps.length kc) := HPD6.out.c 3 _ rfl
          go_wp2_with fail
          have h7 := (((((HZE.out.set0 (Nat.le_refl _) 0 (.int .i64 c.k)).set0 (Nat.le_refl _) 1 (.int .i64 c.v)).set0 (Nat.le_refl _) 2 (.int .i64 c.n)).set0 (Nat.le_refl _) 3 (.slice pc c.ps.length kc)).setA (Nat.le_refl _) (.int .i64 0)).setX (Nat.le_refl _) (.int .i64 0)
          have hq0 : ¬ (w.heap.size + 1 + 1 < w.heap.size) := by omega
          have hq1 : ¬ (w.heap.size + 1 + 1 < w.heap.size + 1) := by omega
          have h8 := (((((HC6.out.own hq0 0 (.int .i64 c.k)).own hq0 1 (.int .i64 c.v)).own hq0 2 (.int .i64 c.n)).own hq0 3 (.slice pc c.ps.length kc)).own hq1 0 (.int .i64 0)).own (Nat.lt_irrefl _) 0 (.int .i64 0)
          clear z0 z1 z2 z3 y0 x0 f0 f1 f2 f3 g0 k0 d0 d1 d2 d3 HZE HC6 HPD6
          refine leaves_cons (f := 95) (args := #[.pointer (some ⟨w.heap.size + 1, 0, none⟩), .pointer (some ⟨w.heap.size + 1 + 1, 0, none⟩)]) (by simp) (by simp [go_sem]) ?_
          refine (catchC_idle (w.heap.size + 1) (w.heap.size + 1 + 1) _).mono ?_
          rintro e u' w'' ⟨rfl, rfl, hb⟩
          have h9 := h7.bel hb
          have h10 := (h8.bel hb).mono (Q' := fun b => w.heap.size ≤ b) fun b hb => by omega
          have hB := h9.bl
          have c0 := h9.cc.c 0 _ rfl
          have c1 := h9.cc.c 1 _ rfl
          have c2 := h9.cc.c 2 _ rfl
          have c3 := h9.cc.c 3 _ rfl
          have a0 := h9.aa.c 0 _ rfl
          have x0 := h9.xx.c 0 _ rfl
          clear h7 h8 h9 hb
          simp [Leaves, settle, results, Tryz.results34, go_sem, c0, c1, c2, c3, a0, x0, hB]
          exact ⟨pc, kc, rfl, h10⟩

theorem condition_top (l : Bs) (hl : l.length ≤ 80000) (w : World) (hGl : Gl w) (hG : GlE w) (B : Nat) (p : Option Addr) (cap : Nat) (hp : BAt w B p l) :
    Calls Tryz.prog 14 #[.slice p l.length cap] w fun e w' => Below w.heap.size w w' ∧
      match readS (condS 16) l with
      | .no a x => e = .returned (.tuple #[.agg #[.int .i64 0, .int .i64 0, .int .i64 0, .slice none 0 0], .int .i64 a, .int .i64 x])
      | .yes c => ∃ p k, e = .returned (.tuple #[cV c p k, .int .i64 0, .int .i64 0]) ∧ CdIn w' (fun b => w.heap.size ≤ b) c p k := by
  have hmf : ∀ (fn : Fn) (first cap : Array Value) (w : World), (Instr.makeFunc fn first cap).run Tryz.prog w = .ok (.func fn first cap) w := fun _ _ _ _ => rfl
  have hB := (Below.refl w.heap.size w).alloc (Nat.le_refl _) (.cells #[.int .i64 0, .int .i64 0, .int .i64 0, .slice none 0 0] 49)
  have HZ := Lib.hid (Z4.new w)
  have HR := Lib.hid (readC_any l hl _ (hGl.bel' hB) (hG.bel hB) B p cap (hp.bel hB (Nat.le_refl _)))
  have HB := Lib.hid hB
  obtain ⟨R, hR⟩ : ∃ R, readS (condS 16) l = R := ⟨_, rfl⟩
  rw [hR] at HR ⊢
  clear hGl hG hp hB hR
  cases R with
  | no a x =>
    dsimp only at HR ⊢
    go_enter Tryz.func14, Tryz.ntmps14
    go_wp2_with fail
    go_at_call 34
    refine HR.out.mono ?_
    rintro e w1 ⟨hb, rfl⟩
    have HZ1 := Lib.hid (HZ.out.bel hb HZ.out.lt)
    have HB1 := Lib.hid (HB.out.trans (hb.mono HB.out.size))
    clear hb HZ HB HR
    obtain ⟨u0, u1, u2, u3, z0, z1, z2, z3⟩ := HZ1.out.ex
    have f0 := HZ1.out.fz 0
    have f1 := HZ1.out.fz 1
    have f2 := HZ1.out.fz 2
    have f3 := HZ1.out.fz 3
    go_wp2_with fail
    have HX := HZ1.out.put (.int .i64 0) (.int .i64 0) (.int .i64 0) (.slice none 0 0)
    unfold put4 at HX
    obtain ⟨c0, c1, c2, c3⟩ := HX
    refine bodyPost_ret (v := .tuple #[.agg #[.int .i64 0, .int .i64 0, .int .i64 0, .slice none 0 0], .int .i64 a, .int .i64 x]) ?_ rfl ⟨put4_below HB1.out (Nat.le_refl _) _ _ _ _, rfl⟩
    simp [results, Tryz.results14, go_sem, c0, c1, c2, c3]
  | yes c =>
    dsimp only at HR ⊢
    go_enter Tryz.func14, Tryz.ntmps14
    go_wp2_with fail
    go_at_call 34
    refine HR.out.mono ?_
    rintro e w1 ⟨hb, pc, kc, rfl, hc⟩
    have HZ1 := Lib.hid (HZ.out.bel hb HZ.out.lt)
    have HB1 := Lib.hid (HB.out.trans (hb.mono HB.out.size))
    rw [World.size_alloc] at hc
    have HC := Lib.hid hc
    clear hb HZ HB HR hc
    obtain ⟨u0, u1, u2, u3, z0, z1, z2, z3⟩ := HZ1.out.ex
    have f0 := HZ1.out.fz 0
    have f1 := HZ1.out.fz 1
    have f2 := HZ1.out.fz 2
    have f3 := HZ1.out.fz 3
    unfold cV
    go_wp2_with fail
    have HX := HZ1.out.put (.int .i64 c.k) (.int .i64 c.v) (.int .i64 c.n) (.slice pc c.ps.length kc)
    unfold put4 at HX
    obtain ⟨c0, c1, c2, c3⟩ := HX
    refine bodyPost_ret (v := .tuple #[.agg #[.int .i64 c.k, .int .i64 c.v, .int .i64 c.n, .slice pc c.ps.length kc], .int .i64 0, .int .i64 0]) ?_ rfl ⟨put4_below HB1.out (Nat.le_refl _) _ _ _ _, pc, kc, rfl, (HC.out.keep (Nat.le_of_eq (put4_size _ _ _ _).symm) fun b hb _ => put4_other (by omega) _ _ _ _).mono fun b hb => by omega⟩
    simp [results, Tryz.results14, go_sem, c0, c1, c2, c3]
end Go.Proofs.YtdhdjfkknfbmhaaGreatDoor
