/- limited, of conditions. -/
import Derived.Test.YtabdgnigmlpeaaaGreatDoorTAllcond
import Derived.Test.YtabdgnigmlpeaaaGreatDoorTAlllcond
import Derived.Test.YtabdgnigmlpeaaaGreatDoorTEnv
import Derived.Laws.EntriesVeiled
namespace Go.Proofs.YtabdgnigmlpeaaaGreatDoor
open Go.RowKit

/-- What is left to count lies in the block L, which may be written. -/
structure Left (w : World) (L : Nat) (left : Int) : Prop where
  c : w.cell? ⟨L, 0, none⟩ = some (.int .i64 left)
  fz : w.frozen? ⟨L, 0, none⟩ = false
theorem Left.lt {w : World} {L : Nat} {left : Int} (h : Left w L left) : L < w.heap.size := World.block_lt_of_cell? _ _ h.c
theorem Left.bel {w w' : World} {L : Nat} {left : Int} (h : Left w L left) (hb : Below w.heap.size w w') : Left w' L left := ⟨keepc hb h.c, (hb.frozen (p := ⟨L, 0, none⟩) h.lt).trans h.fz⟩
theorem Left.set {w : World} {L : Nat} {left : Int} (h : Left w L left) (n : Int) : Left (w.setCell ⟨L, 0, none⟩ (.int .i64 n)) L n :=
  ⟨World.cell?_setCell_same _ _ _ h.c, by simp only [World.frozen?_setCell]; exact h.fz⟩
/-- The cells that the closures of limited capture: the function inside, and the closure itself. -/
structure LimC (w : World) (fi ff L I F : Nat) : Prop where
  ci : w.cell? ⟨I, 0, none⟩ = some (.func (Fn.func fi) #[] #[])
  cf : w.cell? ⟨F, 0, none⟩ = some (.func (Fn.func ff) #[] #[.pointer (some ⟨L, 0, none⟩), .pointer (some ⟨I, 0, none⟩), .pointer (some ⟨F, 0, none⟩)])
  ni : I ≠ L
  nf : F ≠ L
theorem LimC.kp {w w' : World} {fi ff L I F : Nat} (h : LimC w fi ff L I F) (hk : Kp w w' L) : LimC w' fi ff L I F :=
  ⟨kp_cell hk (World.block_lt_of_cell? _ _ h.ci) h.ni h.ci, kp_cell hk (World.block_lt_of_cell? _ _ h.cf) h.nf h.cf, h.ni, h.nf⟩
theorem keepk {w w' : World} {b o L : Nat} {v : Value} (hk : Kp w w' L) (hne : b ≠ L) (h : w.cell? ⟨b, o, none⟩ = some v) : w'.cell? ⟨b, o, none⟩ = some v := kp_cell hk (World.block_lt_of_cell? _ _ h) hne h
theorem Kp.bel {w w' : World} {L : Nat} (hb : Below w.heap.size w w') : Kp w w' L := Kp.ofBelow hb (Nat.le_refl _)

set_option maxHeartbeats 1000000 in
/-- The inmost closure: it goes on one level deeper. -/
theorem lim3c_any (T : Bool × Int) (m : Option Addr) (n cap : Nat) (d : Nat) (hd : d ≤ 100) (L I F D : Nat) (W : World) (hC : LimC W 104 164 L I F) (hD : W.cell? ⟨D, 0, none⟩ = some (.int .i64 d))
    (h : ∀ W', Below W.heap.size W W' → Calls Tryz.prog 164 #[.slice m n cap, .int .i64 ((d + 1 : Nat) : Int), .pointer (some ⟨L, 0, none⟩), .pointer (some ⟨I, 0, none⟩), .pointer (some ⟨F, 0, none⟩)] W' fun e w' => e = .returned (.bool T.1) ∧ Left w' L T.2 ∧ Kp W' w' L) :
    Calls Tryz.prog 168 #[.slice m n cap, .pointer (some ⟨F, 0, none⟩), .pointer (some ⟨D, 0, none⟩)] W fun e w' => e = .returned (.bool T.1) ∧ Left w' L T.2 ∧ Kp W w' L := by
  have H := Lib.hid (h W (Below.refl _ _))
  have hw : ((d + 1 : Nat) : Int) = (d : Int) + 1 := by omega
  rw [hw] at H
  have cf := hC.cf
  clear h hC hw
  go_enter Tryz.func168, Tryz.ntmps168
  go_wp2_with (go_at_call 164; (with_reducible refine H.out.mono ?_); rintro e w1 ⟨rfl, hr⟩; have HR := Lib.hid hr; clear hr)
  go_ret
  exact ⟨rfl, HR.out⟩

set_option maxHeartbeats 1000000 in
theorem parts_any (c : Cd) (p : Option Addr) (cap : Nat) (w : World) :
    Calls Tryz.prog 104 #[cV c p cap] w fun e w' => ∃ a, e = .returned (.slice (some ⟨a, 0, none⟩) 1 1) ∧ w'.cell? ⟨a, 0, none⟩ = some (.slice p c.ps.length cap) ∧ w.heap.size ≤ a ∧ Below w.heap.size w w' := by
  have hA := (Below.refl w.heap.size w).alloc (Nat.le_refl _) (.cells #[.int .i64 c.k, .int .i64 c.v, .int .i64 c.n, .slice p c.ps.length cap] 40)
  have HA2 := Lib.hid (hA.alloc hA.size (.cells #[.slice p c.ps.length cap] 38))
  have HX : Hid (((w.alloc (.cells #[.int .i64 c.k, .int .i64 c.v, .int .i64 c.n, .slice p c.ps.length cap] 40)).alloc (.cells #[.slice p c.ps.length cap] 38)).cell? ⟨w.heap.size + 1, 0, none⟩ = some (.slice p c.ps.length cap)) := Lib.hid (by simp [go_sem])
  unfold cV
  clear hA
  generalize c.k = x1 at *
  generalize c.v = x2 at *
  generalize c.n = x3 at *
  generalize c.ps.length = l at *
  go_enter Tryz.func104, Tryz.ntmps104
  go_wp2_with fail
  go_ret
  exact ⟨w.heap.size + 1, rfl, HX.out, by omega, HA2.out⟩
theorem allS_one {α σ : Type} (f : σ → α → Bool × σ) (s : σ) (x : α) : allS f s [x] = f s x := by
  rw [allS, allS]
  cases h : f s x with
  | mk a b => cases a <;> rfl

set_option maxHeartbeats 2000000 in
/-- The closure in the middle: a condition's parts. -/
theorem lim2c_any (c : Cd) (p : Option Addr) (cap : Nat) (d : Nat) (hd : d ≤ 50) (L I F D : Nat) (W : World) (s : Int) (hs0 : 0 ≤ s) (hs1 : s ≤ 256) (hC : LimC W 104 164 L I F) (hD : W.cell? ⟨D, 0, none⟩ = some (.int .i64 d)) (hDL : D ≠ L) (hLe : Left W L s)
    (h : ∀ W' s, Kp W W' L → Left W' L s → 0 ≤ s → s ≤ 256 → Calls Tryz.prog 164 #[.slice p c.ps.length cap, .int .i64 ((d + 1 : Nat) : Int), .pointer (some ⟨L, 0, none⟩), .pointer (some ⟨I, 0, none⟩), .pointer (some ⟨F, 0, none⟩)] W' fun e w' => e = .returned (.bool (fitL (d + 1) s c.ps).1) ∧ Left w' L (fitL (d + 1) s c.ps).2 ∧ Kp W' w' L) :
    Calls Tryz.prog 166 #[cV c p cap, .pointer (some ⟨I, 0, none⟩), .pointer (some ⟨F, 0, none⟩), .pointer (some ⟨D, 0, none⟩)] W fun e w' => e = .returned (.bool (fitC d s c).1) ∧ Left w' L (fitC d s c).2 ∧ Kp W w' L := by
  have hA := (Below.refl W.heap.size W).alloc (Nat.le_refl _) (.cells #[.int .i64 c.k, .int .i64 c.v, .int .i64 c.n, .slice p c.ps.length cap] 40)
  have HP : Hid (∀ W1, W.alloc (.cells #[.int .i64 c.k, .int .i64 c.v, .int .i64 c.n, .slice p c.ps.length cap] 40) = W1 → Calls Tryz.prog 104 #[.agg #[.int .i64 c.k, .int .i64 c.v, .int .i64 c.n, .slice p c.ps.length cap]] W1 fun e w' => ∃ a, e = .returned (.slice (some ⟨a, 0, none⟩) 1 1) ∧ w'.cell? ⟨a, 0, none⟩ = some (.slice p c.ps.length cap) ∧ W.heap.size ≤ a ∧ Below W.heap.size W w') := Lib.hid fun W1 e1 => (parts_any c p cap W1).mono fun e w' ⟨a, h1, h2, h3, h4⟩ => by
    subst e1
    exact ⟨a, h1, h2, Nat.le_trans hA.size h3, hA.trans (h4.mono hA.size)⟩
  have HN : Hid (∀ W2 a, Below W.heap.size W W2 → W.heap.size ≤ a → W2.cell? ⟨a, 0, none⟩ = some (.slice p c.ps.length cap) → Calls Tryz.prog 167 #[.slice (some ⟨a, 0, none⟩) 1 1, .func (Fn.func 168) #[] #[.pointer (some ⟨F, 0, none⟩), .pointer (some ⟨D, 0, none⟩)]] W2 fun e w' => e = .returned (.bool (fitC d s c).1) ∧ Left w' L (fitC d s c).2 ∧ Kp W w' L) := Lib.hid fun W2 a hb ha hc => by
    rw [fitC_eq]
    have hk0 : Kp W W2 L := Kp.bel hb
    have hLe2 := hLe.bel hb
    have hf : ∀ s j (h : j < [()].length), (0 ≤ s ∧ s ≤ 256) → ((fun (s : Int) (_ : Unit) => fitL (d + 1) s c.ps) s [()][j]).1 = true → (0 ≤ ((fun (s : Int) (_ : Unit) => fitL (d + 1) s c.ps) s [()][j]).2 ∧ ((fun (s : Int) (_ : Unit) => fitL (d + 1) s c.ps) s [()][j]).2 ≤ 256) := fun s j _ hs ht => by
      have := fitC_good d s c hs.1 hs.2
      rw [fitC_eq] at this
      exact this ht
    have hkeep : ∀ s W' W'', (fun (s : Int) W' => Left W' L s ∧ Kp W2 W' L) s W' → Below W'.heap.size W' W'' → (fun (s : Int) W' => Left W' L s ∧ Kp W2 W' L) s W'' := fun s W' W'' h1 h2 => ⟨h1.1.bel h2, h1.2.trans (Kp.bel h2)⟩
    have H := all_lcond (fun (s : Int) (_ : Unit) => fitL (d + 1) s c.ps) (fun s W' => Left W' L s ∧ Kp W2 W' L) (fun s => 0 ≤ s ∧ s ≤ 256) (Fn.func 168) #[] #[.pointer (some ⟨F, 0, none⟩), .pointer (some ⟨D, 0, none⟩)] L [()] (fun _ => .slice p c.ps.length cap) (some ⟨a, 0, none⟩) a 0 1 (fun _ => rfl) (by simp)
      (fun s W' j hW hj => by
        obtain rfl : j = 0 := by simpa using hj
        exact keepk hW.2 (by have := hLe.lt; omega) hc) hf
      (all1_lcond (fun (s : Int) (_ : Unit) => fitL (d + 1) s c.ps) (fun s W' => Left W' L s ∧ Kp W2 W' L) (fun s => 0 ≤ s ∧ s ≤ 256) L 168 #[.pointer (some ⟨F, 0, none⟩), .pointer (some ⟨D, 0, none⟩)] (enters_of Tryz.func168 (by kernel_rfl) rfl) [()] (fun _ => .slice p c.ps.length cap) hkeep
        fun s W' j hj hs hW => by
          have hk1 := hk0.trans hW.2
          refine (lim3c_any (fitL (d + 1) s c.ps) p c.ps.length cap d (by omega) L I F D W' (hC.kp hk1) (keepk hk1 hDL hD) fun W3 hb3 => h W3 s (hk1.trans (Kp.bel hb3)) (hW.1.bel hb3) hs.1 hs.2).mono fun e w' hr => ⟨hr.1, ⟨hr.2.1, hW.2.trans hr.2.2⟩, hr.2.2⟩)
      hkeep s W2 (by have := hLe.lt; have := hb.size; omega) ⟨hs0, hs1⟩ ⟨hLe2, Kp.refl _ _⟩
    rw [allS_one] at H
    exact H.mono fun e w' hr => ⟨hr.1, hr.2.1.1, hk0.trans hr.2.1.2⟩
  have ci := keepc hA hC.ci
  unfold cV
  clear h hC hD hLe hA
  generalize c.k = x1 at *
  generalize c.v = x2 at *
  generalize c.n = x3 at *
  generalize c.ps.length = l at *
  generalize fitC d s c = T at *
  have hmf : ∀ (fn : Fn) (first cap : Array Value) (w : World), (Instr.makeFunc fn first cap).run Tryz.prog w = .ok (.func fn first cap) w := fun _ _ _ _ => rfl
  go_enter Tryz.func166, Tryz.ntmps166
  go_wp2_with (first | (go_at_call 104; (with_reducible refine (HP.out _ rfl).mono ?_); rintro e w1 ⟨a, rfl, h2, h3, h4⟩; have H2 := Lib.hid h2; have H3 := Lib.hid h3; have H4 := Lib.hid h4; clear h2 h3 h4) | (go_at_call 167; (with_reducible refine (HN.out _ _ H4.out H3.out H2.out).mono ?_); rintro e w2 ⟨rfl, hr⟩; have HR := Lib.hid hr; clear hr))
  go_ret
  exact ⟨rfl, HR.out⟩

set_option maxHeartbeats 2000000 in
/-- The recursive closure. -/
theorem fits_cond (L I F : Nat) {w0 : World} {Q : Nat → Prop} {c : Cd} {p : Option Addr} {cap : Nat} (h : CdIn w0 Q c p cap) (hQ : ∀ b, Q b → b ≠ L) : ∀ (W : World) (d : Nat) (s : Int), Kp w0 W L → d ≤ 17 → 0 ≤ s → s ≤ 256 → LimC W 104 164 L I F → Left W L s →
    Calls Tryz.prog 164 #[.slice p c.ps.length cap, .int .i64 (d : Int), .pointer (some ⟨L, 0, none⟩), .pointer (some ⟨I, 0, none⟩), .pointer (some ⟨F, 0, none⟩)] W fun e w' => e = .returned (.bool (fitL d s c.ps).1) ∧ Left w' L (fitL d s c.ps).2 ∧ Kp W w' L := by
  induction h with
  | mk k v n ps p cap b off P C hl hc hc2 hp hb hcell hsub ih =>
    intro W d s hk hd hs0 hs1 hC hLe
    show Calls _ _ #[.slice p ps.length cap, _, _, _, _] W fun e w' => e = .returned (.bool (fitL d s ps).1) ∧ Left w' L (fitL d s ps).2 ∧ Kp W w' L
    have hA := (Below.refl W.heap.size W).alloc (Nat.le_refl _) (.cells #[.int .i64 (d : Int)] 3)
    have hLe1 := hLe.bel hA
    have hcl := hLe1.c
    have hfz := hLe1.fz
    have hw : IntKind.i64.wrap (s - (ps.length : Int)) = s - (ps.length : Int) := IntWalk.i64_in _ (by omega)
    have HK2 : Hid (Kp W ((W.alloc (.cells #[.int .i64 (d : Int)] 3)).setCell ⟨L, 0, none⟩ (.int .i64 (s - (ps.length : Int)))) L) := Lib.hid ((Kp.bel hA).trans (Kp.own _ _ _ _))
    have HL2 := Lib.hid (hLe1.set (s - (ps.length : Int)))
    have HD2 : Hid (((W.alloc (.cells #[.int .i64 (d : Int)] 3)).setCell ⟨L, 0, none⟩ (.int .i64 (s - (ps.length : Int)))).cell? ⟨W.heap.size, 0, none⟩ = some (.int .i64 (d : Int))) := Lib.hid (keepk (Kp.own _ _ _ _) (by have := hLe.lt; omega) (by simp [go_sem]))
    have HDL : W.heap.size ≠ L := by have := hLe.lt; omega
    unfold fitL
    have HN : Hid (¬(s - (ps.length : Int) < 0) → ¬(ps ≠ [] ∧ 16 < d) → Calls Tryz.prog 165 #[.slice p ps.length cap, .func (Fn.func 166) #[] #[.pointer (some ⟨I, 0, none⟩), .pointer (some ⟨F, 0, none⟩), .pointer (some ⟨W.heap.size, 0, none⟩)]] ((W.alloc (.cells #[.int .i64 (d : Int)] 3)).setCell ⟨L, 0, none⟩ (.int .i64 (s - (ps.length : Int)))) fun e w' => e = .returned (.bool (fitCs d (s - ps.length) ps).1) ∧ Left w' L (fitCs d (s - ps.length) ps).2 ∧ Kp W w' L) := Lib.hid fun hn1 hn2 => by
      have hd16 : ps ≠ [] → d ≤ 16 := fun hne => Nat.not_lt.1 fun h => hn2 ⟨hne, h⟩
      rw [fitCs_eq]
      have hK2 := HK2.out
      have hL2 := HL2.out
      have hD2 := HD2.out
      have hszL := hLe.lt
      have hsz2 : W.heap.size < ((W.alloc (.cells #[.int .i64 (d : Int)] 3)).setCell ⟨L, 0, none⟩ (.int .i64 (s - (ps.length : Int)))).heap.size := by simp
      generalize ((W.alloc (.cells #[.int .i64 (d : Int)] 3)).setCell ⟨L, 0, none⟩ (.int .i64 (s - (ps.length : Int)))) = W2 at *
      have hf : ∀ s j (h : j < ps.length), (0 ≤ s ∧ s ≤ 256) → (fitC d s ps[j]).1 = true → (0 ≤ (fitC d s ps[j]).2 ∧ (fitC d s ps[j]).2 ≤ 256) := fun s j hj hs ht => fitC_good d s _ hs.1 hs.2 ht
      have hkeep : ∀ s W' W'', (fun (s : Int) W' => Left W' L s ∧ Kp W2 W' L) s W' → Below W'.heap.size W' W'' → (fun (s : Int) W' => Left W' L s ∧ Kp W2 W' L) s W'' := fun s W' W'' h1 h2 => ⟨h1.1.bel h2, h1.2.trans (Kp.bel h2)⟩
      have hg : ∀ j (h : j < ps.length), ps.getD j .zero = ps[j] := fun j h => by simp [List.getD, h]
      have H := all_cond (fitC d) (fun s W' => Left W' L s ∧ Kp W2 W' L) (fun s => 0 ≤ s ∧ s ≤ 256) (Fn.func 166) #[] #[.pointer (some ⟨I, 0, none⟩), .pointer (some ⟨F, 0, none⟩), .pointer (some ⟨W.heap.size, 0, none⟩)] L ps
        (fun j => .int .i64 (ps.getD j .zero).k) (fun j => .int .i64 (ps.getD j .zero).v) (fun j => .int .i64 (ps.getD j .zero).n) (fun j => .slice (P j) (ps.getD j .zero).ps.length (C j)) p b off cap (fun hne => (hb hne).1) hl
        (fun s W' j hW hj => by
          have hne : ps ≠ [] := by rintro rfl; simp at hj
          obtain ⟨_, hq, _⟩ := hb hne
          obtain ⟨a0, a1, a2, a3⟩ := hcell j hj
          have hkk := (hk.trans hK2).trans hW.2
          rw [hg j hj]
          exact ⟨keepk hkk (hQ b hq) a0, keepk hkk (hQ b hq) a1, keepk hkk (hQ b hq) a2, keepk hkk (hQ b hq) a3⟩) hf
        (all1_cond (fitC d) (fun s W' => Left W' L s ∧ Kp W2 W' L) (fun s => 0 ≤ s ∧ s ≤ 256) L 166 #[.pointer (some ⟨I, 0, none⟩), .pointer (some ⟨F, 0, none⟩), .pointer (some ⟨W.heap.size, 0, none⟩)] (enters_of Tryz.func166 (by kernel_rfl) rfl) ps
          (fun j => .int .i64 (ps.getD j .zero).k) (fun j => .int .i64 (ps.getD j .zero).v) (fun j => .int .i64 (ps.getD j .zero).n) (fun j => .slice (P j) (ps.getD j .zero).ps.length (C j)) hkeep
          fun s W' j hj hs hW => by
            have hne : ps ≠ [] := by rintro rfl; simp at hj
            have hd2 := hd16 hne
            have hk1 := hK2.trans hW.2
            have hkk := hk.trans hk1
            have hlim := lim2c_any ps[j] (P j) (C j) d (by omega) L I F W.heap.size W' s hs.1 hs.2 (hC.kp hk1) (keepk hW.2 HDL hD2) HDL hW.1 fun W3 s3 hk3 hl3 h03 h13 => ih j hj W3 (d + 1) s3 (hkk.trans hk3) (by omega) h03 h13 ((hC.kp hk1).kp hk3) hl3
            unfold cV at hlim
            rw [← hg j hj] at hlim
            rw [← hg j hj]
            exact hlim.mono fun e w' hr => ⟨hr.1, ⟨hr.2.1, hW.2.trans hr.2.2⟩, hr.2.2⟩)
        hkeep (s - ps.length) W2 (by omega) ⟨by omega, by omega⟩ ⟨hL2, Kp.refl _ _⟩
      exact H.mono fun e w' hr => ⟨hr.1, hr.2.1.1, hK2.trans hr.2.1.2⟩
    have hd2 := HD2.out
    clear ih hsub hcell hb hk hC hLe hLe1 HD2 HDL hQ hw
    have hmf : ∀ (fn : Fn) (first cap : Array Value) (w : World), (Instr.makeFunc fn first cap).run Tryz.prog w = .ok (.func fn first cap) w := fun _ _ _ _ => rfl
    by_cases hbad : s - (ps.length : Int) < 0
    · rw [if_pos (.inl hbad)]
      clear HN
      go_enter Tryz.func164, Tryz.ntmps164
      go_wp2_with fail
      go_ret
      exact ⟨rfl, HL2.out, HK2.out⟩
    · by_cases hbad2 : ps ≠ [] ∧ 16 < d
      · rw [if_pos (.inr hbad2)]
        clear HN
        have h16 : (16 : Int) < (d : Int) := by omega
        have hne : (0 : Int) < (ps.length : Int) := by have := List.length_pos_iff.2 hbad2.1; omega
        clear hbad2
        go_enter Tryz.func164, Tryz.ntmps164
        go_wp2_with fail
        go_ret
        exact ⟨rfl, HL2.out, HK2.out⟩
      · rw [if_neg fun h => h.elim hbad hbad2]
        have HN2 := Lib.hid (HN.out hbad hbad2)
        clear HN
        by_cases hne : ps = []
        · have hz : ¬ (0 : Int) < (ps.length : Int) := by rw [hne]; decide
          clear hbad2 hne
          go_enter Tryz.func164, Tryz.ntmps164
          go_wp2_with (go_at_call 165; (with_reducible refine HN2.out.mono ?_); rintro e w1 ⟨rfl, hr⟩; have HR := Lib.hid hr; clear hr)
          go_ret
          exact ⟨rfl, HR.out⟩
        · have h16 : ¬ (16 : Int) < (d : Int) := fun h => hbad2 ⟨hne, by omega⟩
          have hnz : (0 : Int) < (ps.length : Int) := by have := List.length_pos_iff.2 hne; omega
          clear hbad2 hne
          go_enter Tryz.func164, Tryz.ntmps164
          go_wp2_with (go_at_call 165; (with_reducible refine HN2.out.mono ?_); rintro e w1 ⟨rfl, hr⟩; have HR := Lib.hid hr; clear hr)
          go_ret
          exact ⟨rfl, HR.out⟩
set_option maxHeartbeats 2000000 in
theorem limited_cond {w : World} {Q : Nat → Prop} {c : Cd} {p : Option Addr} {cap : Nat} (h : CdIn w Q c p cap) :
    Calls Tryz.prog 103 #[.slice p c.ps.length cap, .func (Fn.func 104) #[] #[], .int .i64 256] w fun e w' => e = .returned (.bool (fitL 0 256 c.ps).1) ∧ Below w.heap.size w w' := by
  have hA1 := (Below.refl w.heap.size w).alloc (Nat.le_refl _) (.cells #[.func (Fn.func 104) #[] #[]] 156)
  have hN : ∀ W, Below w.heap.size w W → LimC W 104 164 (w.heap.size + 1) w.heap.size (w.heap.size + 1 + 1) → Left W (w.heap.size + 1) 256 → Calls Tryz.prog 164 #[.slice p c.ps.length cap, .int .i64 0, .pointer (some ⟨w.heap.size + 1, 0, none⟩), .pointer (some ⟨w.heap.size, 0, none⟩), .pointer (some ⟨w.heap.size + 1 + 1, 0, none⟩)] W fun e w' => e = .returned (.bool (fitL 0 256 c.ps).1) ∧ Below w.heap.size w w' := fun W hb h1 h2 =>
    (fits_cond (w.heap.size + 1) w.heap.size (w.heap.size + 1 + 1) (h.keep2 (Q' := fun b => b < w.heap.size) (Nat.le_refl _) fun b _ hb => ⟨hb, rfl⟩) (fun b hb => by omega) W 0 256 (Kp.bel hb) (by omega) (by omega) (by omega) h1 h2).mono fun e w' hr => ⟨hr.1, hb.trans (hr.2.2.below (by omega) hb.size)⟩
  have HN := Lib.hid hN
  clear hN h hA1
  generalize (fitL 0 256 c.ps).1 = T at *
  generalize c.ps.length = l at *
  have hmf : ∀ (fn : Fn) (first cap : Array Value) (w : World), (Instr.makeFunc fn first cap).run Tryz.prog w = .ok (.func fn first cap) w := fun _ _ _ _ => rfl
  go_enter Tryz.func103, Tryz.ntmps103
  go_wp2_with fail
  go_at_call 164
  have hA1 := (Below.refl w.heap.size w).alloc (Nat.le_refl _) (.cells #[.func (Fn.func 104) #[] #[]] 156)
  have hA2 := hA1.alloc hA1.size (.cells #[.int .i64 256] 3)
  have hA3 := hA2.alloc hA2.size (.cells #[(.func (Fn.func 164) #[] #[.pointer (some ⟨w.heap.size + 1, 0, none⟩), .pointer (some ⟨w.heap.size, 0, none⟩), .pointer (some ⟨w.heap.size + 1 + 1, 0, none⟩)])] 206)
  refine (HN.out (((w.alloc (.cells #[.func (Fn.func 104) #[] #[]] 156)).alloc (.cells #[.int .i64 256] 3)).alloc (.cells #[(.func (Fn.func 164) #[] #[.pointer (some ⟨w.heap.size + 1, 0, none⟩), .pointer (some ⟨w.heap.size, 0, none⟩), .pointer (some ⟨w.heap.size + 1 + 1, 0, none⟩)])] 206)) hA3 ⟨by simp [go_sem], by simp [go_sem], by omega, by omega⟩ ⟨by simp [go_sem], by simp [go_sem]⟩).mono ?_
  rintro e w1 ⟨rfl, hr⟩
  have HR := Lib.hid hr
  clear hr hA1 hA2 hA3
  go_wp2_with fail
  go_ret
  exact ⟨rfl, HR.out⟩
end Go.Proofs.YtabdgnigmlpeaaaGreatDoor
