/- A search through a list of []stopwatch/api.Step. -/
import Derived.Test.YtabdgnigmlpeaaaGreatDoorTMem
import Derived.Shelf.Abstract
namespace Go.Proofs.YtabdgnigmlpeaaaGreatDoor
open Go.RowKit

set_option maxHeartbeats 2000000 in
theorem index_lstep {α σ : Type} (f : σ → α → Bool × σ) (R : σ → World → Prop) (G : σ → Prop) (g : Nat) (lb : Array Value) (eg : ∀ args w, (callFunc g args).run Tryz.prog w = .ok (.enter g args) w)
    (zs : List α) (V : Nat → Value) (p : Option Addr) (b off c : Nat) (hp : zs ≠ [] → p = some ⟨b, off, none⟩) (hl : zs.length ≤ 6000000000000)
    (hread : ∀ s W j, R s W → j < zs.length → W.cell? ⟨b, off + j, none⟩ = some (V j))
    (hcont : ∀ s j (h : j < zs.length), G s → (f s zs[j]).1 = false → G (f s zs[j]).2)
    (hcall : ∀ s W j (h : j < zs.length), G s → R s W → Calls Tryz.prog g (#[V j] ++ lb) W fun e w' => e = .returned (.bool (f s zs[j]).1) ∧ R (f s zs[j]).2 w')
    (s : σ) (w : World) (hG : G s) (hR : R s w) :
    Calls Tryz.prog 220 #[.slice p zs.length c, .func (.func g) #[] lb] w fun e w' => FoundS (anyS f s zs).1 e ∧ R (anyS f s zs).2 w' := by
  obtain ⟨T, hT⟩ : ∃ T, anyS f s zs = T := ⟨_, rfl⟩
  rw [hT]
  have HI0 : Hid (∃ s', anyS f s' (zs.drop 0) = T ∧ R s' w ∧ G s') := Lib.hid ⟨s, hT, hR, hG⟩
  have HP := Lib.hid hp
  have HD := Lib.hid hread
  have HC := Lib.hid hcall
  have HCo := Lib.hid hcont
  clear hT hR hG hp hread hcall hcont
  go_enter Tryz.func220, Tryz.ntmps220
  go_wp2_with fail
  go_loopw [5, 8] (fun _ v wr => ∃ j : Nat, j ≤ zs.length ∧ v = .int .i64 j ∧ Hid (∃ s', anyS f s' (zs.drop j) = T ∧ R s' wr ∧ G s')) (fun _ v _ => zs.length - (intOf v).toNat)
  case atStart => exact ⟨0, Nat.zero_le _, rfl, HI0⟩
  case round =>
    obtain ⟨j, hj, rfl, HI⟩ := hrel
    clear HI0
    by_cases hlt : j < zs.length
    · have hji : (j : Int) < (zs.length : Int) := by omega
      obtain rfl := HP.out (by rintro rfl; simp at hlt)
      obtain ⟨s', h1, h2, h3⟩ := HI.out
      have HG1 : Hid ((f s' zs[j]).1 = false → G (f s' zs[j]).2) := Lib.hid fun h => HCo.out s' j hlt h3 h
      obtain y0 := HD.out s' wr j h2 hlt
      have HCC := Lib.hid (HC.out s' wr j hlt h3 h2)
      have HS1 : Hid ((f s' zs[j]).1 = true → T = (true, (f s' zs[j]).2)) := Lib.hid fun h => by rw [← h1, (List.getElem_cons_drop hlt).symm, anyS, if_pos h]
      have HS2 : Hid ((f s' zs[j]).1 = false → anyS f (f s' zs[j]).2 (zs.drop (j + 1)) = T) := Lib.hid fun h => by rw [← h1, (List.getElem_cons_drop hlt).symm, anyS, if_neg (by rw [h]; decide)]
      clear h1 h2 h3 HC HD HI HP HCo
      generalize V j = y at *
      generalize f s' zs[j] = q at *
      obtain ⟨q1, q2⟩ := q
      simp only at HCC HS1 HS2 HG1
      cases q1 with
      | true =>
        obtain rfl := HS1.out rfl
        clear HS1 HS2
        go_wp2_with (go_at_fn g; (with_reducible refine HCC.out.mono ?_); rintro e w1 ⟨rfl, hr⟩; have HR1 := Lib.hid hr; clear hr)
        go_ret
        exact ⟨⟨j, rfl, by simp⟩, HR1.out⟩
      | false =>
        have HS3 := Lib.hid (HS2.out rfl)
        have HG3 := Lib.hid (HG1.out rfl)
        clear HS1 HS2 HG1
        go_wp2_with (go_at_fn g; (with_reducible refine HCC.out.mono ?_); rintro e w1 ⟨rfl, hr⟩; have HR1 := Lib.hid hr; clear hr)
        go_round
        case rel => exact ⟨j + 1, by omega, by go_num, Lib.hid ⟨q2, HS3.out, HR1.out, HG3.out⟩⟩
        case measure => simp [intOf]; omega
    · have hji : ¬ (j : Int) < (zs.length : Int) := by omega
      have HE : Hid (∃ s', T = (false, s') ∧ R s' wr) := Lib.hid (by
        obtain ⟨s', h1, h2, _⟩ := HI.out
        rw [List.drop_of_length_le (by omega), anyS] at h1
        exact ⟨s', h1.symm, h2⟩)
      clear HC HD HI HP HCo
      go_wp2_with fail
      go_ret
      obtain ⟨s', rfl, h2⟩ := HE.out
      exact ⟨⟨-1, rfl, by simp⟩, h2⟩

theorem contains_lstep {α σ : Type} (f : σ → α → Bool × σ) (R : σ → World → Prop) (G : σ → Prop) (g : Nat) (lb : Array Value) (eg : ∀ args w, (callFunc g args).run Tryz.prog w = .ok (.enter g args) w)
    (zs : List α) (V : Nat → Value) (p : Option Addr) (b off c : Nat) (hp : zs ≠ [] → p = some ⟨b, off, none⟩) (hl : zs.length ≤ 6000000000000)
    (hread : ∀ s W j, R s W → j < zs.length → W.cell? ⟨b, off + j, none⟩ = some (V j))
    (hcont : ∀ s j (h : j < zs.length), G s → (f s zs[j]).1 = false → G (f s zs[j]).2)
    (hcall : ∀ s W j (h : j < zs.length), G s → R s W → Calls Tryz.prog g (#[V j] ++ lb) W fun e w' => e = .returned (.bool (f s zs[j]).1) ∧ R (f s zs[j]).2 w')
    (s : σ) (w : World) (hG : G s) (hR : R s w) :
    Calls Tryz.prog 207 #[.slice p zs.length c, .func (.func g) #[] lb] w fun e w' => e = .returned (.bool (anyS f s zs).1) ∧ R (anyS f s zs).2 w' := by
  have HI := Lib.hid (index_lstep f R G g lb eg zs V p b off c hp hl hread hcont hcall s w hG hR)
  clear hp hread hcall hcont hR hG
  go_enter Tryz.func207, Tryz.ntmps207
  go_wp2_with (go_at_call 220; refine HI.out.mono ?_; rintro e w1 ⟨⟨r, rfl, h⟩, hr⟩; have HR1 := Lib.hid hr; have H1 := Lib.hid h; clear hr h)
  all_goals
    go_ret
    exact ⟨ret_bool (by first | exact H1.out | (rw [← H1.out]; simp; try omega)), HR1.out⟩

set_option maxHeartbeats 1000000 in
/-- The program's negation of a function that lies in a cell. -/
theorem all1_lstep {α σ : Type} (f : σ → α → Bool × σ) (R : σ → World → Prop) (G : σ → Prop) (L : Nat) (g : Nat) (lb : Array Value) (eg : ∀ args w, (callFunc g args).run Tryz.prog w = .ok (.enter g args) w)
    (zs : List α) (V : Nat → Value)
    (_hkeep : ∀ s W W', R s W → Below W.heap.size W W' → R s W')
    (hcall : ∀ s W j (h : j < zs.length), G s → R s W → Calls Tryz.prog g (#[V j] ++ lb) W fun e w' => e = .returned (.bool (f s zs[j]).1) ∧ R (f s zs[j]).2 w' ∧ Kp W w' L) :
    ∀ (B : Nat) s W j (h : j < zs.length), G s → R s W → W.cell? ⟨B, 0, none⟩ = some (.func (.func g) #[] lb) → B < W.heap.size → Calls Tryz.prog 208 #[V j, .pointer (some ⟨B, 0, none⟩)] W fun e w' => e = .returned (.bool (!(f s zs[j]).1)) ∧ R (f s zs[j]).2 w' ∧ Kp W w' L := by
  intro B s W j hj hG hR hc hB
  have HC := Lib.hid (hcall s W j hj hG hR)
  clear hcall
  generalize V j = y at *
  generalize f s zs[j] = q at *
  go_enter Tryz.func208, Tryz.ntmps208
  go_wp2_with (go_at_fn g; (with_reducible refine HC.out.mono ?_); rintro e w1 ⟨rfl, hr⟩; have HR1 := Lib.hid hr; clear hr)
  go_ret
  exact ⟨rfl, HR1.out⟩

set_option maxHeartbeats 1000000 in
/-- all at []stopwatch/api.Step. -/
theorem all_lstep {α σ : Type} (f : σ → α → Bool × σ) (R : σ → World → Prop) (G : σ → Prop) (fn : Fn) (fs cs : Array Value) (L : Nat)
    (zs : List α) (V : Nat → Value) (p : Option Addr) (b off c : Nat) (hp : zs ≠ [] → p = some ⟨b, off, none⟩) (hl : zs.length ≤ 6000000000000)
    (hread : ∀ s W j, R s W → j < zs.length → W.cell? ⟨b, off + j, none⟩ = some (V j))
    (hcont : ∀ s j (h : j < zs.length), G s → (f s zs[j]).1 = true → G (f s zs[j]).2)
    (hcall1 : ∀ (B : Nat) s W j (h : j < zs.length), G s → R s W → W.cell? ⟨B, 0, none⟩ = some (.func fn fs cs) → B < W.heap.size → Calls Tryz.prog 208 #[V j, .pointer (some ⟨B, 0, none⟩)] W fun e w' => e = .returned (.bool (!(f s zs[j]).1)) ∧ R (f s zs[j]).2 w' ∧ Kp W w' L)
    (hkeep : ∀ s W W', R s W → Below W.heap.size W W' → R s W') (s : σ) (w : World) (hL : L ≠ w.heap.size) (hG : G s) (hR : R s w) :
    Calls Tryz.prog 173 #[.slice p zs.length c, .func fn fs cs] w fun e w' => e = .returned (.bool (allS f s zs).1) ∧ R (allS f s zs).2 w' ∧ Kp w w' L := by
  have hA := (Below.refl w.heap.size w).alloc (Nat.le_refl _) (.cells #[.func fn fs cs] 44)
  have hs : w.heap.size < (w.alloc (.cells #[.func fn fs cs] 44)).heap.size := by simp
  have hc0 : (w.alloc (.cells #[.func fn fs cs] 44)).cell? ⟨w.heap.size, 0, none⟩ = some (.func fn fs cs) := by simp [go_sem]
  have HC := Lib.hid (contains_lstep (notS f) (fun s W => R s W ∧ Kp (w.alloc (.cells #[.func fn fs cs] 44)) W L) G 208 #[.pointer (some ⟨w.heap.size, 0, none⟩)] (enters_of Tryz.func208 (by kernel_rfl) rfl) zs V p b off c hp hl
    (fun s W j hW hj => hread s W j hW.1 hj)
    (fun s j hj hs hf => hcont s j hj hs (by simpa [notS] using hf)) (fun s W j hj hs2 hW => (hcall1 w.heap.size s W j hj hs2 hW.1 (kp_cell hW.2 hs hL.symm hc0) (Nat.lt_of_lt_of_le hs hW.2.size)).mono fun e w' h => ⟨h.1, h.2.1, hW.2.trans h.2.2⟩) s _ hG ⟨hkeep s w _ hR hA, Kp.refl _ _⟩)
  have HK := Lib.hid (Kp.ofBelow (sb := L) hA (Nat.le_refl _))
  rw [all_any]
  clear hp hread hcall1 hcont hkeep hR hG hA hs hc0
  generalize anyS (notS f) s zs = q at *
  have hmf : ∀ (fn : Fn) (first cap : Array Value) (w : World), (Instr.makeFunc fn first cap).run Tryz.prog w = .ok (.func fn first cap) w := fun _ _ _ _ => rfl
  go_enter Tryz.func173, Tryz.ntmps173
  go_wp2_with (go_at_call 207; refine HC.out.mono ?_; rintro e w1 ⟨rfl, hr⟩; have HR1 := Lib.hid hr; clear hr)
  go_ret
  exact ⟨rfl, HR1.out.1, HK.out.trans HR1.out.2⟩
end Go.Proofs.YtabdgnigmlpeaaaGreatDoor
