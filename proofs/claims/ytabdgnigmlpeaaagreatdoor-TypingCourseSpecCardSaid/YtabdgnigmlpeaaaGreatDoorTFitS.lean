/- limited, of steps. -/
import Derived.Test.YtabdgnigmlpeaaaGreatDoorTAllstep
import Derived.Test.YtabdgnigmlpeaaaGreatDoorTAlllstep
import Derived.Test.YtabdgnigmlpeaaaGreatDoorTFit
import Derived.Laws.EntriesVeiled
namespace Go.Proofs.YtabdgnigmlpeaaaGreatDoor
open Go.RowKit

set_option maxHeartbeats 1000000 in
/-- The inmost closure: it goes on one level deeper. -/
theorem lim3s_any (T : Bool × Int) (m : Option Addr) (n cap : Nat) (d : Nat) (hd : d ≤ 100) (L I F D : Nat) (W : World) (hC : LimC W 107 170 L I F) (hD : W.cell? ⟨D, 0, none⟩ = some (.int .i64 d))
    (h : ∀ W', Below W.heap.size W W' → Calls Tryz.prog 170 #[.slice m n cap, .int .i64 ((d + 1 : Nat) : Int), .pointer (some ⟨L, 0, none⟩), .pointer (some ⟨I, 0, none⟩), .pointer (some ⟨F, 0, none⟩)] W' fun e w' => e = .returned (.bool T.1) ∧ Left w' L T.2 ∧ Kp W' w' L) :
    Calls Tryz.prog 174 #[.slice m n cap, .pointer (some ⟨F, 0, none⟩), .pointer (some ⟨D, 0, none⟩)] W fun e w' => e = .returned (.bool T.1) ∧ Left w' L T.2 ∧ Kp W w' L := by
  have H := Lib.hid (h W (Below.refl _ _))
  have hw : ((d + 1 : Nat) : Int) = (d : Int) + 1 := by omega
  rw [hw] at H
  have cf := hC.cf
  clear h hC hw
  go_enter Tryz.func174, Tryz.ntmps174
  go_wp2_with (go_at_call 170; (with_reducible refine H.out.mono ?_); rintro e w1 ⟨rfl, hr⟩; have HR := Lib.hid hr; clear hr)
  go_ret
  exact ⟨rfl, HR.out⟩

/-- A step as Go has it. -/
def sV (s : St) (x : Loc) : Value := .agg #[.int .i64 s.k, .int .i64 s.b, .int .i64 s.c.k, .int .i64 s.c.v, .int .i64 s.c.n, .slice x.pc s.c.ps.length x.cc, .slice x.pt s.th.length x.ct, .slice x.pe s.el.length x.ce]
set_option maxHeartbeats 1000000 in
theorem lists_any (s : St) (x : Loc) (w : World) :
    Calls Tryz.prog 107 #[sV s x] w fun e w' => ∃ a, e = .returned (.slice (some ⟨a, 0, none⟩) 2 2) ∧ (w'.cell? ⟨a, 0, none⟩ = some (.slice x.pt s.th.length x.ct) ∧ w'.cell? ⟨a, 1, none⟩ = some (.slice x.pe s.el.length x.ce)) ∧ w.heap.size ≤ a ∧ Below w.heap.size w w' := by
  have hA := (Below.refl w.heap.size w).alloc (Nat.le_refl _) (.cells #[.int .i64 s.k, .int .i64 s.b, .int .i64 s.c.k, .int .i64 s.c.v, .int .i64 s.c.n, .slice x.pc s.c.ps.length x.cc, .slice x.pt s.th.length x.ct, .slice x.pe s.el.length x.ce] 84)
  have HA2 := Lib.hid (hA.alloc hA.size (.cells #[.slice x.pt s.th.length x.ct, .slice x.pe s.el.length x.ce] 29))
  have HX : Hid (∀ W : World, (W.alloc (.cells #[.slice x.pt s.th.length x.ct, .slice x.pe s.el.length x.ce] 29)).cell? ⟨W.heap.size, 0, none⟩ = some (.slice x.pt s.th.length x.ct) ∧ (W.alloc (.cells #[.slice x.pt s.th.length x.ct, .slice x.pe s.el.length x.ce] 29)).cell? ⟨W.heap.size, 1, none⟩ = some (.slice x.pe s.el.length x.ce)) := Lib.hid fun W => ⟨by simp [go_sem], by simp [go_sem]⟩
  have HX2 := Lib.hid (HX.out (w.alloc (.cells #[.int .i64 s.k, .int .i64 s.b, .int .i64 s.c.k, .int .i64 s.c.v, .int .i64 s.c.n, .slice x.pc s.c.ps.length x.cc, .slice x.pt s.th.length x.ct, .slice x.pe s.el.length x.ce] 84)))
  rw [World.size_alloc] at HX2
  unfold sV
  clear hA HX
  generalize s.k = x1 at *
  generalize s.b = x2 at *
  generalize s.c.k = x3 at *
  generalize s.c.v = x4 at *
  generalize s.c.n = x5 at *
  generalize s.c.ps.length = l1 at *
  generalize s.th.length = l2 at *
  generalize s.el.length = l3 at *
  obtain ⟨pc, cc, pt, ct, pe, ce⟩ := x
  simp only at *
  go_enter Tryz.func107, Tryz.ntmps107
  go_wp2_with fail
  go_ret
  exact ⟨w.heap.size + 1, rfl, HX2.out, by omega, HA2.out⟩

set_option maxHeartbeats 2000000 in
/-- The closure in the middle: the lists of a step. -/
theorem lim2s_any (t : St) (x : Loc) (d : Nat) (hd : d ≤ 50) (L I F D : Nat) (W : World) (s : Int) (hs0 : 0 ≤ s) (hs1 : s ≤ 256) (hC : LimC W 107 170 L I F) (hD : W.cell? ⟨D, 0, none⟩ = some (.int .i64 d)) (hDL : D ≠ L) (hLe : Left W L s)
    (h1 : ∀ W' s, Kp W W' L → Left W' L s → 0 ≤ s → s ≤ 256 → Calls Tryz.prog 170 #[.slice x.pt t.th.length x.ct, .int .i64 ((d + 1 : Nat) : Int), .pointer (some ⟨L, 0, none⟩), .pointer (some ⟨I, 0, none⟩), .pointer (some ⟨F, 0, none⟩)] W' fun e w' => e = .returned (.bool (fitT (d + 1) s t.th).1) ∧ Left w' L (fitT (d + 1) s t.th).2 ∧ Kp W' w' L)
    (h2 : ∀ W' s, Kp W W' L → Left W' L s → 0 ≤ s → s ≤ 256 → Calls Tryz.prog 170 #[.slice x.pe t.el.length x.ce, .int .i64 ((d + 1 : Nat) : Int), .pointer (some ⟨L, 0, none⟩), .pointer (some ⟨I, 0, none⟩), .pointer (some ⟨F, 0, none⟩)] W' fun e w' => e = .returned (.bool (fitT (d + 1) s t.el).1) ∧ Left w' L (fitT (d + 1) s t.el).2 ∧ Kp W' w' L) :
    Calls Tryz.prog 172 #[sV t x, .pointer (some ⟨I, 0, none⟩), .pointer (some ⟨F, 0, none⟩), .pointer (some ⟨D, 0, none⟩)] W fun e w' => e = .returned (.bool (fitS d s t).1) ∧ Left w' L (fitS d s t).2 ∧ Kp W w' L := by
  have hA := (Below.refl W.heap.size W).alloc (Nat.le_refl _) (.cells #[.int .i64 t.k, .int .i64 t.b, .int .i64 t.c.k, .int .i64 t.c.v, .int .i64 t.c.n, .slice x.pc t.c.ps.length x.cc, .slice x.pt t.th.length x.ct, .slice x.pe t.el.length x.ce] 84)
  have HP : Hid (∀ W1, W.alloc (.cells #[.int .i64 t.k, .int .i64 t.b, .int .i64 t.c.k, .int .i64 t.c.v, .int .i64 t.c.n, .slice x.pc t.c.ps.length x.cc, .slice x.pt t.th.length x.ct, .slice x.pe t.el.length x.ce] 84) = W1 → Calls Tryz.prog 107 #[.agg #[.int .i64 t.k, .int .i64 t.b, .int .i64 t.c.k, .int .i64 t.c.v, .int .i64 t.c.n, .slice x.pc t.c.ps.length x.cc, .slice x.pt t.th.length x.ct, .slice x.pe t.el.length x.ce]] W1 fun e w' => ∃ a, e = .returned (.slice (some ⟨a, 0, none⟩) 2 2) ∧ (w'.cell? ⟨a, 0, none⟩ = some (.slice x.pt t.th.length x.ct) ∧ w'.cell? ⟨a, 1, none⟩ = some (.slice x.pe t.el.length x.ce)) ∧ W.heap.size ≤ a ∧ Below W.heap.size W w') := Lib.hid fun W1 e1 => (lists_any t x W1).mono fun e w' ⟨a, h1, h2, h3, h4⟩ => by
    subst e1
    exact ⟨a, h1, h2, Nat.le_trans hA.size h3, hA.trans (h4.mono hA.size)⟩
  have HN : Hid (∀ W2 a, Below W.heap.size W W2 → W.heap.size ≤ a → (W2.cell? ⟨a, 0, none⟩ = some (.slice x.pt t.th.length x.ct) ∧ W2.cell? ⟨a, 1, none⟩ = some (.slice x.pe t.el.length x.ce)) → Calls Tryz.prog 173 #[.slice (some ⟨a, 0, none⟩) 2 2, .func (Fn.func 174) #[] #[.pointer (some ⟨F, 0, none⟩), .pointer (some ⟨D, 0, none⟩)]] W2 fun e w' => e = .returned (.bool (fitS d s t).1) ∧ Left w' L (fitS d s t).2 ∧ Kp W w' L) := Lib.hid fun W2 a hb ha hc => by
    rw [fitS_eq]
    have hk0 : Kp W W2 L := Kp.bel hb
    have hLe2 := hLe.bel hb
    have hf : ∀ s j (h : j < [t.th, t.el].length), (0 ≤ s ∧ s ≤ 256) → ((fun (s : Int) l => fitT (d + 1) s l) s [t.th, t.el][j]).1 = true → (0 ≤ ((fun (s : Int) l => fitT (d + 1) s l) s [t.th, t.el][j]).2 ∧ ((fun (s : Int) l => fitT (d + 1) s l) s [t.th, t.el][j]).2 ≤ 256) := fun s j _ hs ht => fitT_good (d + 1) s _ hs.1 hs.2 ht
    have hkeep : ∀ s W' W'', (fun (s : Int) W' => Left W' L s ∧ Kp W2 W' L) s W' → Below W'.heap.size W' W'' → (fun (s : Int) W' => Left W' L s ∧ Kp W2 W' L) s W'' := fun s W' W'' h1 h2 => ⟨h1.1.bel h2, h1.2.trans (Kp.bel h2)⟩
    have H := all_lstep (fun (s : Int) l => fitT (d + 1) s l) (fun s W' => Left W' L s ∧ Kp W2 W' L) (fun s => 0 ≤ s ∧ s ≤ 256) (Fn.func 174) #[] #[.pointer (some ⟨F, 0, none⟩), .pointer (some ⟨D, 0, none⟩)] L [t.th, t.el] (fun j => if j = 0 then .slice x.pt t.th.length x.ct else .slice x.pe t.el.length x.ce) (some ⟨a, 0, none⟩) a 0 2 (fun _ => rfl) (by simp)
      (fun s W' j hW hj => by
        match j, hj with
        | 0, _ => exact keepk hW.2 (by have := hLe.lt; omega) hc.1
        | 1, _ => exact keepk hW.2 (by have := hLe.lt; omega) hc.2
        | j + 2, hj => simp at hj; omega) hf
      (all1_lstep (fun (s : Int) l => fitT (d + 1) s l) (fun s W' => Left W' L s ∧ Kp W2 W' L) (fun s => 0 ≤ s ∧ s ≤ 256) L 174 #[.pointer (some ⟨F, 0, none⟩), .pointer (some ⟨D, 0, none⟩)] (enters_of Tryz.func174 (by kernel_rfl) rfl) [t.th, t.el] (fun j => if j = 0 then .slice x.pt t.th.length x.ct else .slice x.pe t.el.length x.ce) hkeep
        fun s W' j hj hs hW => by
          have hk1 := hk0.trans hW.2
          match j, hj with
          | 0, _ => exact (lim3s_any (fitT (d + 1) s t.th) x.pt t.th.length x.ct d (by omega) L I F D W' (hC.kp hk1) (keepk hk1 hDL hD) fun W3 hb3 => h1 W3 s (hk1.trans (Kp.bel hb3)) (hW.1.bel hb3) hs.1 hs.2).mono fun e w' hr => ⟨hr.1, ⟨hr.2.1, hW.2.trans hr.2.2⟩, hr.2.2⟩
          | 1, _ => exact (lim3s_any (fitT (d + 1) s t.el) x.pe t.el.length x.ce d (by omega) L I F D W' (hC.kp hk1) (keepk hk1 hDL hD) fun W3 hb3 => h2 W3 s (hk1.trans (Kp.bel hb3)) (hW.1.bel hb3) hs.1 hs.2).mono fun e w' hr => ⟨hr.1, ⟨hr.2.1, hW.2.trans hr.2.2⟩, hr.2.2⟩
          | j + 2, hj => simp at hj; omega)
      hkeep s W2 (by have := hLe.lt; have := hb.size; omega) ⟨hs0, hs1⟩ ⟨hLe2, Kp.refl _ _⟩
    exact H.mono fun e w' hr => ⟨hr.1, hr.2.1.1, hk0.trans hr.2.1.2⟩
  have ci := keepc hA hC.ci
  unfold sV
  clear h1 h2 hC hD hLe hA
  generalize fitS d s t = T at *
  generalize t.k = x1 at *
  generalize t.b = x2 at *
  generalize t.c.k = x3 at *
  generalize t.c.v = x4 at *
  generalize t.c.n = x5 at *
  generalize t.c.ps.length = l1 at *
  generalize t.th.length = l2 at *
  generalize t.el.length = l3 at *
  obtain ⟨pc, cc, pt, ct, pe, ce⟩ := x
  simp only at *
  have hmf : ∀ (fn : Fn) (first cap : Array Value) (w : World), (Instr.makeFunc fn first cap).run Tryz.prog w = .ok (.func fn first cap) w := fun _ _ _ _ => rfl
  go_enter Tryz.func172, Tryz.ntmps172
  go_wp2_with (first | (go_at_call 107; (with_reducible refine (HP.out _ rfl).mono ?_); rintro e w1 ⟨a, rfl, h2, h3, h4⟩; have H2 := Lib.hid h2; have H3 := Lib.hid h3; have H4 := Lib.hid h4; clear h2 h3 h4) | (go_at_call 173; (with_reducible refine (HN.out _ _ H4.out H3.out H2.out).mono ?_); rintro e w2 ⟨rfl, hr⟩; have HR := Lib.hid hr; clear hr))
  go_ret
  exact ⟨rfl, HR.out⟩

def St.nilS : St := .mk 0 0 .zero [] []
set_option maxHeartbeats 2000000 in
/-- The recursive closure. -/
theorem fits_step (L I F : Nat) {w0 : World} {Q : Nat → Prop} {ps : List St} {p : Option Addr} {cap : Nat} (h : SsIn w0 Q ps p cap) (hQ : ∀ b, Q b → b ≠ L) : ∀ (W : World) (d : Nat) (s : Int), Kp w0 W L → d ≤ 17 → 0 ≤ s → s ≤ 256 → LimC W 107 170 L I F → Left W L s →
    Calls Tryz.prog 170 #[.slice p ps.length cap, .int .i64 (d : Int), .pointer (some ⟨L, 0, none⟩), .pointer (some ⟨I, 0, none⟩), .pointer (some ⟨F, 0, none⟩)] W fun e w' => e = .returned (.bool (fitT d s ps).1) ∧ Left w' L (fitT d s ps).2 ∧ Kp W w' L := by
  induction h with
  | mk ps p cap b off X hl hc hc2 hp hb hcell hcd hth hel ih1 ih2 =>
    intro W d s hk hd hs0 hs1 hC hLe
    show Calls _ _ #[.slice p ps.length cap, _, _, _, _] W fun e w' => e = .returned (.bool (fitT d s ps).1) ∧ Left w' L (fitT d s ps).2 ∧ Kp W w' L
    have hA := (Below.refl W.heap.size W).alloc (Nat.le_refl _) (.cells #[.int .i64 (d : Int)] 3)
    have hLe1 := hLe.bel hA
    have hcl := hLe1.c
    have hfz := hLe1.fz
    have hw : IntKind.i64.wrap (s - (ps.length : Int)) = s - (ps.length : Int) := IntWalk.i64_in _ (by omega)
    have HK2 : Hid (Kp W ((W.alloc (.cells #[.int .i64 (d : Int)] 3)).setCell ⟨L, 0, none⟩ (.int .i64 (s - (ps.length : Int)))) L) := Lib.hid ((Kp.bel hA).trans (Kp.own _ _ _ _))
    have HL2 := Lib.hid (hLe1.set (s - (ps.length : Int)))
    have HD2 : Hid (((W.alloc (.cells #[.int .i64 (d : Int)] 3)).setCell ⟨L, 0, none⟩ (.int .i64 (s - (ps.length : Int)))).cell? ⟨W.heap.size, 0, none⟩ = some (.int .i64 (d : Int))) := Lib.hid (keepk (Kp.own _ _ _ _) (by have := hLe.lt; omega) (by simp [go_sem]))
    have HDL : W.heap.size ≠ L := by have := hLe.lt; omega
    unfold fitT
    have HN : Hid (¬(s - (ps.length : Int) < 0) → ¬(ps ≠ [] ∧ 16 < d) → Calls Tryz.prog 171 #[.slice p ps.length cap, .func (Fn.func 172) #[] #[.pointer (some ⟨I, 0, none⟩), .pointer (some ⟨F, 0, none⟩), .pointer (some ⟨W.heap.size, 0, none⟩)]] ((W.alloc (.cells #[.int .i64 (d : Int)] 3)).setCell ⟨L, 0, none⟩ (.int .i64 (s - (ps.length : Int)))) fun e w' => e = .returned (.bool (fitSs d (s - ps.length) ps).1) ∧ Left w' L (fitSs d (s - ps.length) ps).2 ∧ Kp W w' L) := Lib.hid fun hn1 hn2 => by
      have hd16 : ps ≠ [] → d ≤ 16 := fun hne => Nat.not_lt.1 fun h => hn2 ⟨hne, h⟩
      rw [fitSs_eq]
      have hK2 := HK2.out
      have hL2 := HL2.out
      have hD2 := HD2.out
      have hszL := hLe.lt
      have hsz2 : W.heap.size < ((W.alloc (.cells #[.int .i64 (d : Int)] 3)).setCell ⟨L, 0, none⟩ (.int .i64 (s - (ps.length : Int)))).heap.size := by simp
      generalize ((W.alloc (.cells #[.int .i64 (d : Int)] 3)).setCell ⟨L, 0, none⟩ (.int .i64 (s - (ps.length : Int)))) = W2 at *
      have hf : ∀ s j (h : j < ps.length), (0 ≤ s ∧ s ≤ 256) → (fitS d s ps[j]).1 = true → (0 ≤ (fitS d s ps[j]).2 ∧ (fitS d s ps[j]).2 ≤ 256) := fun s j hj hs ht => fitS_good d s _ hs.1 hs.2 ht
      have hkeep : ∀ s W' W'', (fun (s : Int) W' => Left W' L s ∧ Kp W2 W' L) s W' → Below W'.heap.size W' W'' → (fun (s : Int) W' => Left W' L s ∧ Kp W2 W' L) s W'' := fun s W' W'' h1 h2 => ⟨h1.1.bel h2, h1.2.trans (Kp.bel h2)⟩
      have hg : ∀ j (h : j < ps.length), ps.getD j .nilS = ps[j] := fun j h => by simp [List.getD, h]
      have H := all_step (fitS d) (fun s W' => Left W' L s ∧ Kp W2 W' L) (fun s => 0 ≤ s ∧ s ≤ 256) (Fn.func 172) #[] #[.pointer (some ⟨I, 0, none⟩), .pointer (some ⟨F, 0, none⟩), .pointer (some ⟨W.heap.size, 0, none⟩)] L ps
        (fun j => .int .i64 (ps.getD j .nilS).k) (fun j => .int .i64 (ps.getD j .nilS).b) (fun j => .int .i64 (ps.getD j .nilS).c.k) (fun j => .int .i64 (ps.getD j .nilS).c.v) (fun j => .int .i64 (ps.getD j .nilS).c.n) (fun j => .slice (X j).pc (ps.getD j .nilS).c.ps.length (X j).cc) (fun j => .slice (X j).pt (ps.getD j .nilS).th.length (X j).ct) (fun j => .slice (X j).pe (ps.getD j .nilS).el.length (X j).ce) p b off cap (fun hne => (hb hne).1) hl
        (fun s W' j hW hj => by
          have hne : ps ≠ [] := by rintro rfl; simp at hj
          obtain ⟨_, hq, _⟩ := hb hne
          have hkk := (hk.trans hK2).trans hW.2
          rw [hg j hj]
          exact ⟨keepk hkk (hQ b hq) (hcell j hj 0 _ rfl), keepk hkk (hQ b hq) (hcell j hj 1 _ rfl), keepk hkk (hQ b hq) (hcell j hj 2 _ rfl), keepk hkk (hQ b hq) (hcell j hj 3 _ rfl), keepk hkk (hQ b hq) (hcell j hj 4 _ rfl), keepk hkk (hQ b hq) (hcell j hj 5 _ rfl), keepk hkk (hQ b hq) (hcell j hj 6 _ rfl), keepk hkk (hQ b hq) (hcell j hj 7 _ rfl)⟩) hf
        (all1_step (fitS d) (fun s W' => Left W' L s ∧ Kp W2 W' L) (fun s => 0 ≤ s ∧ s ≤ 256) L 172 #[.pointer (some ⟨I, 0, none⟩), .pointer (some ⟨F, 0, none⟩), .pointer (some ⟨W.heap.size, 0, none⟩)] (enters_of Tryz.func172 (by kernel_rfl) rfl) ps
          (fun j => .int .i64 (ps.getD j .nilS).k) (fun j => .int .i64 (ps.getD j .nilS).b) (fun j => .int .i64 (ps.getD j .nilS).c.k) (fun j => .int .i64 (ps.getD j .nilS).c.v) (fun j => .int .i64 (ps.getD j .nilS).c.n) (fun j => .slice (X j).pc (ps.getD j .nilS).c.ps.length (X j).cc) (fun j => .slice (X j).pt (ps.getD j .nilS).th.length (X j).ct) (fun j => .slice (X j).pe (ps.getD j .nilS).el.length (X j).ce) hkeep
          fun s W' j hj hs hW => by
            have hne : ps ≠ [] := by rintro rfl; simp at hj
            have hd2 := hd16 hne
            have hk1 := hK2.trans hW.2
            have hkk := hk.trans hk1
            have hlim := lim2s_any ps[j] (X j) d (by omega) L I F W.heap.size W' s hs.1 hs.2 (hC.kp hk1) (keepk hW.2 HDL hD2) HDL hW.1 (fun W3 s3 hk3 hl3 h03 h13 => ih1 j hj W3 (d + 1) s3 (hkk.trans hk3) (by omega) h03 h13 ((hC.kp hk1).kp hk3) hl3) (fun W3 s3 hk3 hl3 h03 h13 => ih2 j hj W3 (d + 1) s3 (hkk.trans hk3) (by omega) h03 h13 ((hC.kp hk1).kp hk3) hl3)
            unfold sV at hlim
            rw [← hg j hj] at hlim
            rw [← hg j hj]
            exact hlim.mono fun e w' hr => ⟨hr.1, ⟨hr.2.1, hW.2.trans hr.2.2⟩, hr.2.2⟩)
        hkeep (s - ps.length) W2 (by omega) ⟨by omega, by omega⟩ ⟨hL2, Kp.refl _ _⟩
      exact H.mono fun e w' hr => ⟨hr.1, hr.2.1.1, hK2.trans hr.2.1.2⟩
    have hd2 := HD2.out
    clear ih1 ih2 hcd hth hel hcell hb hk hC hLe hLe1 HD2 HDL hQ hw
    have hmf : ∀ (fn : Fn) (first cap : Array Value) (w : World), (Instr.makeFunc fn first cap).run Tryz.prog w = .ok (.func fn first cap) w := fun _ _ _ _ => rfl
    by_cases hbad : s - (ps.length : Int) < 0
    · rw [if_pos (.inl hbad)]
      clear HN
      go_enter Tryz.func170, Tryz.ntmps170
      go_wp2_with fail
      go_ret
      exact ⟨rfl, HL2.out, HK2.out⟩
    · by_cases hbad2 : ps ≠ [] ∧ 16 < d
      · rw [if_pos (.inr hbad2)]
        clear HN
        have h16 : (16 : Int) < (d : Int) := by omega
        have hne : (0 : Int) < (ps.length : Int) := by have := List.length_pos_iff.2 hbad2.1; omega
        clear hbad2
        go_enter Tryz.func170, Tryz.ntmps170
        go_wp2_with fail
        go_ret
        exact ⟨rfl, HL2.out, HK2.out⟩
      · rw [if_neg fun h => h.elim hbad hbad2]
        have HN2 := Lib.hid (HN.out hbad hbad2)
        clear HN
        by_cases hne : ps = []
        · have hz : ¬ (0 : Int) < (ps.length : Int) := by rw [hne]; decide
          clear hbad2 hne
          go_enter Tryz.func170, Tryz.ntmps170
          go_wp2_with (go_at_call 171; (with_reducible refine HN2.out.mono ?_); rintro e w1 ⟨rfl, hr⟩; have HR := Lib.hid hr; clear hr)
          go_ret
          exact ⟨rfl, HR.out⟩
        · have h16 : ¬ (16 : Int) < (d : Int) := fun h => hbad2 ⟨hne, by omega⟩
          have hnz : (0 : Int) < (ps.length : Int) := by have := List.length_pos_iff.2 hne; omega
          clear hbad2 hne
          go_enter Tryz.func170, Tryz.ntmps170
          go_wp2_with (go_at_call 171; (with_reducible refine HN2.out.mono ?_); rintro e w1 ⟨rfl, hr⟩; have HR := Lib.hid hr; clear hr)
          go_ret
          exact ⟨rfl, HR.out⟩
set_option maxHeartbeats 2000000 in
theorem limited_step {w : World} {Q : Nat → Prop} {l : List St} {p : Option Addr} {cap : Nat} (h : SsIn w Q l p cap) :
    Calls Tryz.prog 106 #[.slice p l.length cap, .func (Fn.func 107) #[] #[], .int .i64 64] w fun e w' => e = .returned (.bool (fitT 0 64 l).1) ∧ Below w.heap.size w w' := by
  have hA1 := (Below.refl w.heap.size w).alloc (Nat.le_refl _) (.cells #[.func (Fn.func 107) #[] #[]] 159)
  have hN : ∀ W, Below w.heap.size w W → LimC W 107 170 (w.heap.size + 1) w.heap.size (w.heap.size + 1 + 1) → Left W (w.heap.size + 1) 64 → Calls Tryz.prog 170 #[.slice p l.length cap, .int .i64 0, .pointer (some ⟨w.heap.size + 1, 0, none⟩), .pointer (some ⟨w.heap.size, 0, none⟩), .pointer (some ⟨w.heap.size + 1 + 1, 0, none⟩)] W fun e w' => e = .returned (.bool (fitT 0 64 l).1) ∧ Below w.heap.size w w' := fun W hb h1 h2 =>
    (fits_step (w.heap.size + 1) w.heap.size (w.heap.size + 1 + 1) (h.keep2 (Q' := fun b => b < w.heap.size) (Nat.le_refl _) fun b _ hb => ⟨hb, rfl⟩) (fun b hb => by omega) W 0 64 (Kp.bel hb) (by omega) (by omega) (by omega) h1 h2).mono fun e w' hr => ⟨hr.1, hb.trans (hr.2.2.below (by omega) hb.size)⟩
  have HN := Lib.hid hN
  clear hN h hA1
  generalize (fitT 0 64 l).1 = T at *
  generalize l.length = n at *
  have hmf : ∀ (fn : Fn) (first cap : Array Value) (w : World), (Instr.makeFunc fn first cap).run Tryz.prog w = .ok (.func fn first cap) w := fun _ _ _ _ => rfl
  go_enter Tryz.func106, Tryz.ntmps106
  go_wp2_with fail
  go_at_call 170
  have hA1 := (Below.refl w.heap.size w).alloc (Nat.le_refl _) (.cells #[.func (Fn.func 107) #[] #[]] 159)
  have hA2 := hA1.alloc hA1.size (.cells #[.int .i64 64] 3)
  have hA3 := hA2.alloc hA2.size (.cells #[(.func (Fn.func 170) #[] #[.pointer (some ⟨w.heap.size + 1, 0, none⟩), .pointer (some ⟨w.heap.size, 0, none⟩), .pointer (some ⟨w.heap.size + 1 + 1, 0, none⟩)])] 214)
  refine (HN.out (((w.alloc (.cells #[.func (Fn.func 107) #[] #[]] 159)).alloc (.cells #[.int .i64 64] 3)).alloc (.cells #[(.func (Fn.func 170) #[] #[.pointer (some ⟨w.heap.size + 1, 0, none⟩), .pointer (some ⟨w.heap.size, 0, none⟩), .pointer (some ⟨w.heap.size + 1 + 1, 0, none⟩)])] 214)) hA3 ⟨by simp [go_sem], by simp [go_sem], by omega, by omega⟩ ⟨by simp [go_sem], by simp [go_sem]⟩).mono ?_
  rintro e w1 ⟨rfl, hr⟩
  have HR := Lib.hid hr
  clear hr hA1 hA2 hA3
  go_wp2_with fail
  go_ret
  exact ⟨rfl, HR.out⟩
end Go.Proofs.YtabdgnigmlpeaaaGreatDoor
