/- A search through a list of stopwatch/api.Part. -/
import Derived.Test.YtabdgnigmlpeaaaGreatDoorTMem
import Derived.Shelf.Abstract
import Derived.Test.YtabdgnigmlpeaaaGreatDoorTFit
import Derived.Laws.EntriesVeiled
namespace Go.Proofs.YtabdgnigmlpeaaaGreatDoor
open Go.RowKit

set_option maxHeartbeats 2000000 in
theorem index_part {α σ : Type} (f : σ → α → Bool × σ) (R : σ → World → Prop) (G : σ → Prop) (g : Nat) (lb : Array Value) (eg : ∀ args w, (callFunc g args).run Tryz.prog w = .ok (.enter g args) w)
    (zs : List α) (V0 V1 V2 : Nat → Value) (p : Option Addr) (b off c : Nat) (hp : zs ≠ [] → p = some ⟨b, off, none⟩) (hl : zs.length ≤ 6000000000000)
    (hread : ∀ s W j, R s W → j < zs.length → W.cell? ⟨b, off + j * 3, none⟩ = some (V0 j) ∧ W.cell? ⟨b, off + j * 3 + 1, none⟩ = some (V1 j) ∧ W.cell? ⟨b, off + j * 3 + 2, none⟩ = some (V2 j))
    (hcont : ∀ s j (h : j < zs.length), G s → (f s zs[j]).1 = false → G (f s zs[j]).2)
    (hcall : ∀ s W j (h : j < zs.length), G s → R s W → Calls Tryz.prog g (#[.agg #[V0 j, V1 j, V2 j]] ++ lb) W fun e w' => e = .returned (.bool (f s zs[j]).1) ∧ R (f s zs[j]).2 w')
    (s : σ) (w : World) (hG : G s) (hR : R s w) :
    Calls Tryz.prog 210 #[.slice p zs.length c, .func (.func g) #[] lb] w fun e w' => FoundS (anyS f s zs).1 e ∧ R (anyS f s zs).2 w' := by
  obtain ⟨T, hT⟩ : ∃ T, anyS f s zs = T := ⟨_, rfl⟩
  rw [hT]
  have HI0 : Hid (∃ s', anyS f s' (zs.drop 0) = T ∧ R s' w ∧ G s') := Lib.hid ⟨s, hT, hR, hG⟩
  have HP := Lib.hid hp
  have HD := Lib.hid hread
  have HC := Lib.hid hcall
  have HCo := Lib.hid hcont
  clear hT hR hG hp hread hcall hcont
  go_enter Tryz.func210, Tryz.ntmps210
  go_wp2_with fail
  go_loopw [5, 8] (fun _ v wr => ∃ j : Nat, j ≤ zs.length ∧ v = .int .i64 j ∧ Hid (∃ s', anyS f s' (zs.drop j) = T ∧ R s' wr ∧ G s')) (fun _ v _ => zs.length - (intOf v).toNat)
  case atStart => exact ⟨0, Nat.zero_le _, rfl, HI0⟩
  case round =>
    obtain ⟨j, hj, rfl, HI⟩ := hrel
    clear HI0
    by_cases hlt : j < zs.length
    · have hji : (j : Int) < (zs.length : Int) := by omega
      obtain rfl := HP.out (by rintro rfl; simp at hlt)
      obtain ⟨s', h1, h2, h3⟩ := HI.out
      have HG1 : Hid ((f s' zs[j]).1 = false → G (f s' zs[j]).2) := Lib.hid fun h => HCo.out s' j hlt h3 h
      obtain ⟨y20, y21, y22⟩ := HD.out s' wr j h2 hlt
      have HCC := Lib.hid (HC.out s' wr j hlt h3 h2)
      have HS1 : Hid ((f s' zs[j]).1 = true → T = (true, (f s' zs[j]).2)) := Lib.hid fun h => by rw [← h1, (List.getElem_cons_drop hlt).symm, anyS, if_pos h]
      have HS2 : Hid ((f s' zs[j]).1 = false → anyS f (f s' zs[j]).2 (zs.drop (j + 1)) = T) := Lib.hid fun h => by rw [← h1, (List.getElem_cons_drop hlt).symm, anyS, if_neg (by rw [h]; decide)]
      clear h1 h2 h3 HC HD HI HP HCo
      generalize V0 j = y0 at *
      generalize V1 j = y1 at *
      generalize V2 j = y2 at *
      generalize f s' zs[j] = q at *
      obtain ⟨q1, q2⟩ := q
      simp only at HCC HS1 HS2 HG1
      cases q1 with
      | true =>
        obtain rfl := HS1.out rfl
        clear HS1 HS2
        go_wp2_with (go_at_fn g; (with_reducible refine HCC.out.mono ?_); rintro e w1 ⟨rfl, hr⟩; have HR1 := Lib.hid hr; clear hr)
        go_ret
        exact ⟨⟨j, rfl, by simp⟩, HR1.out⟩
      | false =>
        have HS3 := Lib.hid (HS2.out rfl)
        have HG3 := Lib.hid (HG1.out rfl)
        clear HS1 HS2 HG1
        go_wp2_with (go_at_fn g; (with_reducible refine HCC.out.mono ?_); rintro e w1 ⟨rfl, hr⟩; have HR1 := Lib.hid hr; clear hr)
        go_round
        case rel => exact ⟨j + 1, by omega, by go_num, Lib.hid ⟨q2, HS3.out, HR1.out, HG3.out⟩⟩
        case measure => simp [intOf]; omega
    · have hji : ¬ (j : Int) < (zs.length : Int) := by omega
      have HE : Hid (∃ s', T = (false, s') ∧ R s' wr) := Lib.hid (by
        obtain ⟨s', h1, h2, _⟩ := HI.out
        rw [List.drop_of_length_le (by omega), anyS] at h1
        exact ⟨s', h1.symm, h2⟩)
      clear HC HD HI HP HCo
      go_wp2_with fail
      go_ret
      obtain ⟨s', rfl, h2⟩ := HE.out
      exact ⟨⟨-1, rfl, by simp⟩, h2⟩

theorem contains_part {α σ : Type} (f : σ → α → Bool × σ) (R : σ → World → Prop) (G : σ → Prop) (g : Nat) (lb : Array Value) (eg : ∀ args w, (callFunc g args).run Tryz.prog w = .ok (.enter g args) w)
    (zs : List α) (V0 V1 V2 : Nat → Value) (p : Option Addr) (b off c : Nat) (hp : zs ≠ [] → p = some ⟨b, off, none⟩) (hl : zs.length ≤ 6000000000000)
    (hread : ∀ s W j, R s W → j < zs.length → W.cell? ⟨b, off + j * 3, none⟩ = some (V0 j) ∧ W.cell? ⟨b, off + j * 3 + 1, none⟩ = some (V1 j) ∧ W.cell? ⟨b, off + j * 3 + 2, none⟩ = some (V2 j))
    (hcont : ∀ s j (h : j < zs.length), G s → (f s zs[j]).1 = false → G (f s zs[j]).2)
    (hcall : ∀ s W j (h : j < zs.length), G s → R s W → Calls Tryz.prog g (#[.agg #[V0 j, V1 j, V2 j]] ++ lb) W fun e w' => e = .returned (.bool (f s zs[j]).1) ∧ R (f s zs[j]).2 w')
    (s : σ) (w : World) (hG : G s) (hR : R s w) :
    Calls Tryz.prog 182 #[.slice p zs.length c, .func (.func g) #[] lb] w fun e w' => e = .returned (.bool (anyS f s zs).1) ∧ R (anyS f s zs).2 w' := by
  have HI := Lib.hid (index_part f R G g lb eg zs V0 V1 V2 p b off c hp hl hread hcont hcall s w hG hR)
  clear hp hread hcall hcont hR hG
  go_enter Tryz.func182, Tryz.ntmps182
  go_wp2_with (go_at_call 210; refine HI.out.mono ?_; rintro e w1 ⟨⟨r, rfl, h⟩, hr⟩; have HR1 := Lib.hid hr; have H1 := Lib.hid h; clear hr h)
  all_goals
    go_ret
    exact ⟨ret_bool (by first | exact H1.out | (rw [← H1.out]; simp; try omega)), HR1.out⟩

set_option maxHeartbeats 1000000 in
/-- The program's negation of a function that lies in a cell. -/
theorem all1_part {α σ : Type} (f : σ → α → Bool × σ) (R : σ → World → Prop) (G : σ → Prop) (L : Nat) (g : Nat) (lb : Array Value) (eg : ∀ args w, (callFunc g args).run Tryz.prog w = .ok (.enter g args) w)
    (zs : List α) (V0 V1 V2 : Nat → Value)
    (hkeep : ∀ s W W', R s W → Below W.heap.size W W' → R s W')
    (hcall : ∀ s W j (h : j < zs.length), G s → R s W → Calls Tryz.prog g (#[.agg #[V0 j, V1 j, V2 j]] ++ lb) W fun e w' => e = .returned (.bool (f s zs[j]).1) ∧ R (f s zs[j]).2 w' ∧ Kp W w' L) :
    ∀ (B : Nat) s W j (h : j < zs.length), G s → R s W → W.cell? ⟨B, 0, none⟩ = some (.func (.func g) #[] lb) → B < W.heap.size → Calls Tryz.prog 183 #[.agg #[V0 j, V1 j, V2 j], .pointer (some ⟨B, 0, none⟩)] W fun e w' => e = .returned (.bool (!(f s zs[j]).1)) ∧ R (f s zs[j]).2 w' ∧ Kp W w' L := by
  intro B s W j hj hG hR hc hB
  have hA := (Below.refl W.heap.size W).alloc (Nat.le_refl _) (.cells #[V0 j, V1 j, V2 j] 105)
  have HC := Lib.hid (hcall s _ j hj hG (hkeep s W _ hR hA))
  have HK := Lib.hid (Kp.ofBelow (sb := L) hA (Nat.le_refl _))
  have hc2 := (hA.cell (p := ⟨B, 0, none⟩) hB).trans hc
  clear hkeep hcall hc hA
  generalize V0 j = y0 at *
  generalize V1 j = y1 at *
  generalize V2 j = y2 at *
  generalize f s zs[j] = q at *
  go_enter Tryz.func183, Tryz.ntmps183
  go_wp2_with (go_at_fn g; (with_reducible refine HC.out.mono ?_); rintro e w1 ⟨rfl, hr⟩; have HR1 := Lib.hid hr; clear hr)
  go_ret
  exact ⟨rfl, HR1.out.1, HK.out.trans HR1.out.2⟩

set_option maxHeartbeats 1000000 in
/-- all at stopwatch/api.Part. -/
theorem all_part {α σ : Type} (f : σ → α → Bool × σ) (R : σ → World → Prop) (G : σ → Prop) (fn : Fn) (fs cs : Array Value) (L : Nat)
    (zs : List α) (V0 V1 V2 : Nat → Value) (p : Option Addr) (b off c : Nat) (hp : zs ≠ [] → p = some ⟨b, off, none⟩) (hl : zs.length ≤ 6000000000000)
    (hread : ∀ s W j, R s W → j < zs.length → W.cell? ⟨b, off + j * 3, none⟩ = some (V0 j) ∧ W.cell? ⟨b, off + j * 3 + 1, none⟩ = some (V1 j) ∧ W.cell? ⟨b, off + j * 3 + 2, none⟩ = some (V2 j))
    (hcont : ∀ s j (h : j < zs.length), G s → (f s zs[j]).1 = true → G (f s zs[j]).2)
    (hcall1 : ∀ (B : Nat) s W j (h : j < zs.length), G s → R s W → W.cell? ⟨B, 0, none⟩ = some (.func fn fs cs) → B < W.heap.size → Calls Tryz.prog 183 #[.agg #[V0 j, V1 j, V2 j], .pointer (some ⟨B, 0, none⟩)] W fun e w' => e = .returned (.bool (!(f s zs[j]).1)) ∧ R (f s zs[j]).2 w' ∧ Kp W w' L)
    (hkeep : ∀ s W W', R s W → Below W.heap.size W W' → R s W') (s : σ) (w : World) (hL : L ≠ w.heap.size) (hG : G s) (hR : R s w) :
    Calls Tryz.prog 126 #[.slice p zs.length c, .func fn fs cs] w fun e w' => e = .returned (.bool (allS f s zs).1) ∧ R (allS f s zs).2 w' ∧ Kp w w' L := by
  have hA := (Below.refl w.heap.size w).alloc (Nat.le_refl _) (.cells #[.func fn fs cs] 187)
  have hs : w.heap.size < (w.alloc (.cells #[.func fn fs cs] 187)).heap.size := by simp
  have hc0 : (w.alloc (.cells #[.func fn fs cs] 187)).cell? ⟨w.heap.size, 0, none⟩ = some (.func fn fs cs) := by simp [go_sem]
  have HC := Lib.hid (contains_part (notS f) (fun s W => R s W ∧ Kp (w.alloc (.cells #[.func fn fs cs] 187)) W L) G 183 #[.pointer (some ⟨w.heap.size, 0, none⟩)] (enters_of Tryz.func183 (by kernel_rfl) rfl) zs V0 V1 V2 p b off c hp hl
    (fun s W j hW hj => hread s W j hW.1 hj)
    (fun s j hj hs hf => hcont s j hj hs (by simpa [notS] using hf)) (fun s W j hj hs2 hW => (hcall1 w.heap.size s W j hj hs2 hW.1 (kp_cell hW.2 hs hL.symm hc0) (Nat.lt_of_lt_of_le hs hW.2.size)).mono fun e w' h => ⟨h.1, h.2.1, hW.2.trans h.2.2⟩) s _ hG ⟨hkeep s w _ hR hA, Kp.refl _ _⟩)
  have HK := Lib.hid (Kp.ofBelow (sb := L) hA (Nat.le_refl _))
  rw [all_any]
  clear hp hread hcall1 hcont hkeep hR hG hA hs hc0
  generalize anyS (notS f) s zs = q at *
  have hmf : ∀ (fn : Fn) (first cap : Array Value) (w : World), (Instr.makeFunc fn first cap).run Tryz.prog w = .ok (.func fn first cap) w := fun _ _ _ _ => rfl
  go_enter Tryz.func126, Tryz.ntmps126
  go_wp2_with (go_at_call 182; refine HC.out.mono ?_; rintro e w1 ⟨rfl, hr⟩; have HR1 := Lib.hid hr; clear hr)
  go_ret
  exact ⟨rfl, HR1.out.1, HK.out.trans HR1.out.2⟩
end Go.Proofs.YtabdgnigmlpeaaaGreatDoor
/- A search through a list of []stopwatch/api.Part. -/
namespace Go.Proofs.YtabdgnigmlpeaaaGreatDoor
open Go.RowKit

set_option maxHeartbeats 2000000 in
theorem index_lpart {α σ : Type} (f : σ → α → Bool × σ) (R : σ → World → Prop) (G : σ → Prop) (g : Nat) (lb : Array Value) (eg : ∀ args w, (callFunc g args).run Tryz.prog w = .ok (.enter g args) w)
    (zs : List α) (V : Nat → Value) (p : Option Addr) (b off c : Nat) (hp : zs ≠ [] → p = some ⟨b, off, none⟩) (hl : zs.length ≤ 6000000000000)
    (hread : ∀ s W j, R s W → j < zs.length → W.cell? ⟨b, off + j, none⟩ = some (V j))
    (hcont : ∀ s j (h : j < zs.length), G s → (f s zs[j]).1 = false → G (f s zs[j]).2)
    (hcall : ∀ s W j (h : j < zs.length), G s → R s W → Calls Tryz.prog g (#[V j] ++ lb) W fun e w' => e = .returned (.bool (f s zs[j]).1) ∧ R (f s zs[j]).2 w')
    (s : σ) (w : World) (hG : G s) (hR : R s w) :
    Calls Tryz.prog 211 #[.slice p zs.length c, .func (.func g) #[] lb] w fun e w' => FoundS (anyS f s zs).1 e ∧ R (anyS f s zs).2 w' := by
  obtain ⟨T, hT⟩ : ∃ T, anyS f s zs = T := ⟨_, rfl⟩
  rw [hT]
  have HI0 : Hid (∃ s', anyS f s' (zs.drop 0) = T ∧ R s' w ∧ G s') := Lib.hid ⟨s, hT, hR, hG⟩
  have HP := Lib.hid hp
  have HD := Lib.hid hread
  have HC := Lib.hid hcall
  have HCo := Lib.hid hcont
  clear hT hR hG hp hread hcall hcont
  go_enter Tryz.func211, Tryz.ntmps211
  go_wp2_with fail
  go_loopw [5, 8] (fun _ v wr => ∃ j : Nat, j ≤ zs.length ∧ v = .int .i64 j ∧ Hid (∃ s', anyS f s' (zs.drop j) = T ∧ R s' wr ∧ G s')) (fun _ v _ => zs.length - (intOf v).toNat)
  case atStart => exact ⟨0, Nat.zero_le _, rfl, HI0⟩
  case round =>
    obtain ⟨j, hj, rfl, HI⟩ := hrel
    clear HI0
    by_cases hlt : j < zs.length
    · have hji : (j : Int) < (zs.length : Int) := by omega
      obtain rfl := HP.out (by rintro rfl; simp at hlt)
      obtain ⟨s', h1, h2, h3⟩ := HI.out
      have HG1 : Hid ((f s' zs[j]).1 = false → G (f s' zs[j]).2) := Lib.hid fun h => HCo.out s' j hlt h3 h
      obtain y0 := HD.out s' wr j h2 hlt
      have HCC := Lib.hid (HC.out s' wr j hlt h3 h2)
      have HS1 : Hid ((f s' zs[j]).1 = true → T = (true, (f s' zs[j]).2)) := Lib.hid fun h => by rw [← h1, (List.getElem_cons_drop hlt).symm, anyS, if_pos h]
      have HS2 : Hid ((f s' zs[j]).1 = false → anyS f (f s' zs[j]).2 (zs.drop (j + 1)) = T) := Lib.hid fun h => by rw [← h1, (List.getElem_cons_drop hlt).symm, anyS, if_neg (by rw [h]; decide)]
      clear h1 h2 h3 HC HD HI HP HCo
      generalize V j = y at *
      generalize f s' zs[j] = q at *
      obtain ⟨q1, q2⟩ := q
      simp only at HCC HS1 HS2 HG1
      cases q1 with
      | true =>
        obtain rfl := HS1.out rfl
        clear HS1 HS2
        go_wp2_with (go_at_fn g; (with_reducible refine HCC.out.mono ?_); rintro e w1 ⟨rfl, hr⟩; have HR1 := Lib.hid hr; clear hr)
        go_ret
        exact ⟨⟨j, rfl, by simp⟩, HR1.out⟩
      | false =>
        have HS3 := Lib.hid (HS2.out rfl)
        have HG3 := Lib.hid (HG1.out rfl)
        clear HS1 HS2 HG1
        go_wp2_with (go_at_fn g; (with_reducible refine HCC.out.mono ?_); rintro e w1 ⟨rfl, hr⟩; have HR1 := Lib.hid hr; clear hr)
        go_round
        case rel => exact ⟨j + 1, by omega, by go_num, Lib.hid ⟨q2, HS3.out, HR1.out, HG3.out⟩⟩
        case measure => simp [intOf]; omega
    · have hji : ¬ (j : Int) < (zs.length : Int) := by omega
      have HE : Hid (∃ s', T = (false, s') ∧ R s' wr) := Lib.hid (by
        obtain ⟨s', h1, h2, _⟩ := HI.out
        rw [List.drop_of_length_le (by omega), anyS] at h1
        exact ⟨s', h1.symm, h2⟩)
      clear HC HD HI HP HCo
      go_wp2_with fail
      go_ret
      obtain ⟨s', rfl, h2⟩ := HE.out
      exact ⟨⟨-1, rfl, by simp⟩, h2⟩

theorem contains_lpart {α σ : Type} (f : σ → α → Bool × σ) (R : σ → World → Prop) (G : σ → Prop) (g : Nat) (lb : Array Value) (eg : ∀ args w, (callFunc g args).run Tryz.prog w = .ok (.enter g args) w)
    (zs : List α) (V : Nat → Value) (p : Option Addr) (b off c : Nat) (hp : zs ≠ [] → p = some ⟨b, off, none⟩) (hl : zs.length ≤ 6000000000000)
    (hread : ∀ s W j, R s W → j < zs.length → W.cell? ⟨b, off + j, none⟩ = some (V j))
    (hcont : ∀ s j (h : j < zs.length), G s → (f s zs[j]).1 = false → G (f s zs[j]).2)
    (hcall : ∀ s W j (h : j < zs.length), G s → R s W → Calls Tryz.prog g (#[V j] ++ lb) W fun e w' => e = .returned (.bool (f s zs[j]).1) ∧ R (f s zs[j]).2 w')
    (s : σ) (w : World) (hG : G s) (hR : R s w) :
    Calls Tryz.prog 184 #[.slice p zs.length c, .func (.func g) #[] lb] w fun e w' => e = .returned (.bool (anyS f s zs).1) ∧ R (anyS f s zs).2 w' := by
  have HI := Lib.hid (index_lpart f R G g lb eg zs V p b off c hp hl hread hcont hcall s w hG hR)
  clear hp hread hcall hcont hR hG
  go_enter Tryz.func184, Tryz.ntmps184
  go_wp2_with (go_at_call 211; refine HI.out.mono ?_; rintro e w1 ⟨⟨r, rfl, h⟩, hr⟩; have HR1 := Lib.hid hr; have H1 := Lib.hid h; clear hr h)
  all_goals
    go_ret
    exact ⟨ret_bool (by first | exact H1.out | (rw [← H1.out]; simp; try omega)), HR1.out⟩

set_option maxHeartbeats 1000000 in
/-- The program's negation of a function that lies in a cell. -/
theorem all1_lpart {α σ : Type} (f : σ → α → Bool × σ) (R : σ → World → Prop) (G : σ → Prop) (L : Nat) (g : Nat) (lb : Array Value) (eg : ∀ args w, (callFunc g args).run Tryz.prog w = .ok (.enter g args) w)
    (zs : List α) (V : Nat → Value)
    (_hkeep : ∀ s W W', R s W → Below W.heap.size W W' → R s W')
    (hcall : ∀ s W j (h : j < zs.length), G s → R s W → Calls Tryz.prog g (#[V j] ++ lb) W fun e w' => e = .returned (.bool (f s zs[j]).1) ∧ R (f s zs[j]).2 w' ∧ Kp W w' L) :
    ∀ (B : Nat) s W j (h : j < zs.length), G s → R s W → W.cell? ⟨B, 0, none⟩ = some (.func (.func g) #[] lb) → B < W.heap.size → Calls Tryz.prog 185 #[V j, .pointer (some ⟨B, 0, none⟩)] W fun e w' => e = .returned (.bool (!(f s zs[j]).1)) ∧ R (f s zs[j]).2 w' ∧ Kp W w' L := by
  intro B s W j hj hG hR hc hB
  have HC := Lib.hid (hcall s W j hj hG hR)
  clear hcall
  generalize V j = y at *
  generalize f s zs[j] = q at *
  go_enter Tryz.func185, Tryz.ntmps185
  go_wp2_with (go_at_fn g; (with_reducible refine HC.out.mono ?_); rintro e w1 ⟨rfl, hr⟩; have HR1 := Lib.hid hr; clear hr)
  go_ret
  exact ⟨rfl, HR1.out⟩

set_option maxHeartbeats 1000000 in
/-- all at []stopwatch/api.Part. -/
theorem all_lpart {α σ : Type} (f : σ → α → Bool × σ) (R : σ → World → Prop) (G : σ → Prop) (fn : Fn) (fs cs : Array Value) (L : Nat)
    (zs : List α) (V : Nat → Value) (p : Option Addr) (b off c : Nat) (hp : zs ≠ [] → p = some ⟨b, off, none⟩) (hl : zs.length ≤ 6000000000000)
    (hread : ∀ s W j, R s W → j < zs.length → W.cell? ⟨b, off + j, none⟩ = some (V j))
    (hcont : ∀ s j (h : j < zs.length), G s → (f s zs[j]).1 = true → G (f s zs[j]).2)
    (hcall1 : ∀ (B : Nat) s W j (h : j < zs.length), G s → R s W → W.cell? ⟨B, 0, none⟩ = some (.func fn fs cs) → B < W.heap.size → Calls Tryz.prog 185 #[V j, .pointer (some ⟨B, 0, none⟩)] W fun e w' => e = .returned (.bool (!(f s zs[j]).1)) ∧ R (f s zs[j]).2 w' ∧ Kp W w' L)
    (hkeep : ∀ s W W', R s W → Below W.heap.size W W' → R s W') (s : σ) (w : World) (hL : L ≠ w.heap.size) (hG : G s) (hR : R s w) :
    Calls Tryz.prog 128 #[.slice p zs.length c, .func fn fs cs] w fun e w' => e = .returned (.bool (allS f s zs).1) ∧ R (allS f s zs).2 w' ∧ Kp w w' L := by
  have hA := (Below.refl w.heap.size w).alloc (Nat.le_refl _) (.cells #[.func fn fs cs] 186)
  have hs : w.heap.size < (w.alloc (.cells #[.func fn fs cs] 186)).heap.size := by simp
  have hc0 : (w.alloc (.cells #[.func fn fs cs] 186)).cell? ⟨w.heap.size, 0, none⟩ = some (.func fn fs cs) := by simp [go_sem]
  have HC := Lib.hid (contains_lpart (notS f) (fun s W => R s W ∧ Kp (w.alloc (.cells #[.func fn fs cs] 186)) W L) G 185 #[.pointer (some ⟨w.heap.size, 0, none⟩)] (enters_of Tryz.func185 (by kernel_rfl) rfl) zs V p b off c hp hl
    (fun s W j hW hj => hread s W j hW.1 hj)
    (fun s j hj hs hf => hcont s j hj hs (by simpa [notS] using hf)) (fun s W j hj hs2 hW => (hcall1 w.heap.size s W j hj hs2 hW.1 (kp_cell hW.2 hs hL.symm hc0) (Nat.lt_of_lt_of_le hs hW.2.size)).mono fun e w' h => ⟨h.1, h.2.1, hW.2.trans h.2.2⟩) s _ hG ⟨hkeep s w _ hR hA, Kp.refl _ _⟩)
  have HK := Lib.hid (Kp.ofBelow (sb := L) hA (Nat.le_refl _))
  rw [all_any]
  clear hp hread hcall1 hcont hkeep hR hG hA hs hc0
  generalize anyS (notS f) s zs = q at *
  have hmf : ∀ (fn : Fn) (first cap : Array Value) (w : World), (Instr.makeFunc fn first cap).run Tryz.prog w = .ok (.func fn first cap) w := fun _ _ _ _ => rfl
  go_enter Tryz.func128, Tryz.ntmps128
  go_wp2_with (go_at_call 184; refine HC.out.mono ?_; rintro e w1 ⟨rfl, hr⟩; have HR1 := Lib.hid hr; clear hr)
  go_ret
  exact ⟨rfl, HR1.out.1, HK.out.trans HR1.out.2⟩
end Go.Proofs.YtabdgnigmlpeaaaGreatDoor
/- A search through a list of stopwatch/api.Distance. -/
namespace Go.Proofs.YtabdgnigmlpeaaaGreatDoor
open Go.RowKit

set_option maxHeartbeats 2000000 in
theorem index_dist {α σ : Type} (f : σ → α → Bool × σ) (R : σ → World → Prop) (G : σ → Prop) (g : Nat) (lb : Array Value) (eg : ∀ args w, (callFunc g args).run Tryz.prog w = .ok (.enter g args) w)
    (zs : List α) (V0 V1 V2 V3 V4 : Nat → Value) (p : Option Addr) (b off c : Nat) (hp : zs ≠ [] → p = some ⟨b, off, none⟩) (hl : zs.length ≤ 6000000000000)
    (hread : ∀ s W j, R s W → j < zs.length → W.cell? ⟨b, off + j * 5, none⟩ = some (V0 j) ∧ W.cell? ⟨b, off + j * 5 + 1, none⟩ = some (V1 j) ∧ W.cell? ⟨b, off + j * 5 + 2, none⟩ = some (V2 j) ∧ W.cell? ⟨b, off + j * 5 + 3, none⟩ = some (V3 j) ∧ W.cell? ⟨b, off + j * 5 + 4, none⟩ = some (V4 j))
    (hcont : ∀ s j (h : j < zs.length), G s → (f s zs[j]).1 = false → G (f s zs[j]).2)
    (hcall : ∀ s W j (h : j < zs.length), G s → R s W → Calls Tryz.prog g (#[.agg #[V0 j, V1 j, V2 j, V3 j, V4 j]] ++ lb) W fun e w' => e = .returned (.bool (f s zs[j]).1) ∧ R (f s zs[j]).2 w')
    (s : σ) (w : World) (hG : G s) (hR : R s w) :
    Calls Tryz.prog 181 #[.slice p zs.length c, .func (.func g) #[] lb] w fun e w' => FoundS (anyS f s zs).1 e ∧ R (anyS f s zs).2 w' := by
  obtain ⟨T, hT⟩ : ∃ T, anyS f s zs = T := ⟨_, rfl⟩
  rw [hT]
  have HI0 : Hid (∃ s', anyS f s' (zs.drop 0) = T ∧ R s' w ∧ G s') := Lib.hid ⟨s, hT, hR, hG⟩
  have HP := Lib.hid hp
  have HD := Lib.hid hread
  have HC := Lib.hid hcall
  have HCo := Lib.hid hcont
  clear hT hR hG hp hread hcall hcont
  go_enter Tryz.func181, Tryz.ntmps181
  go_wp2_with fail
  go_loopw [5, 8] (fun _ v wr => ∃ j : Nat, j ≤ zs.length ∧ v = .int .i64 j ∧ Hid (∃ s', anyS f s' (zs.drop j) = T ∧ R s' wr ∧ G s')) (fun _ v _ => zs.length - (intOf v).toNat)
  case atStart => exact ⟨0, Nat.zero_le _, rfl, HI0⟩
  case round =>
    obtain ⟨j, hj, rfl, HI⟩ := hrel
    clear HI0
    by_cases hlt : j < zs.length
    · have hji : (j : Int) < (zs.length : Int) := by omega
      obtain rfl := HP.out (by rintro rfl; simp at hlt)
      obtain ⟨s', h1, h2, h3⟩ := HI.out
      have HG1 : Hid ((f s' zs[j]).1 = false → G (f s' zs[j]).2) := Lib.hid fun h => HCo.out s' j hlt h3 h
      obtain ⟨y20, y21, y22, y23, y24⟩ := HD.out s' wr j h2 hlt
      have HCC := Lib.hid (HC.out s' wr j hlt h3 h2)
      have HS1 : Hid ((f s' zs[j]).1 = true → T = (true, (f s' zs[j]).2)) := Lib.hid fun h => by rw [← h1, (List.getElem_cons_drop hlt).symm, anyS, if_pos h]
      have HS2 : Hid ((f s' zs[j]).1 = false → anyS f (f s' zs[j]).2 (zs.drop (j + 1)) = T) := Lib.hid fun h => by rw [← h1, (List.getElem_cons_drop hlt).symm, anyS, if_neg (by rw [h]; decide)]
      clear h1 h2 h3 HC HD HI HP HCo
      generalize V0 j = y0 at *
      generalize V1 j = y1 at *
      generalize V2 j = y2 at *
      generalize V3 j = y3 at *
      generalize V4 j = y4 at *
      generalize f s' zs[j] = q at *
      obtain ⟨q1, q2⟩ := q
      simp only at HCC HS1 HS2 HG1
      cases q1 with
      | true =>
        obtain rfl := HS1.out rfl
        clear HS1 HS2
        go_wp2_with (go_at_fn g; (with_reducible refine HCC.out.mono ?_); rintro e w1 ⟨rfl, hr⟩; have HR1 := Lib.hid hr; clear hr)
        go_ret
        exact ⟨⟨j, rfl, by simp⟩, HR1.out⟩
      | false =>
        have HS3 := Lib.hid (HS2.out rfl)
        have HG3 := Lib.hid (HG1.out rfl)
        clear HS1 HS2 HG1
        go_wp2_with (go_at_fn g; (with_reducible refine HCC.out.mono ?_); rintro e w1 ⟨rfl, hr⟩; have HR1 := Lib.hid hr; clear hr)
        go_round
        case rel => exact ⟨j + 1, by omega, by go_num, Lib.hid ⟨q2, HS3.out, HR1.out, HG3.out⟩⟩
        case measure => simp [intOf]; omega
    · have hji : ¬ (j : Int) < (zs.length : Int) := by omega
      have HE : Hid (∃ s', T = (false, s') ∧ R s' wr) := Lib.hid (by
        obtain ⟨s', h1, h2, _⟩ := HI.out
        rw [List.drop_of_length_le (by omega), anyS] at h1
        exact ⟨s', h1.symm, h2⟩)
      clear HC HD HI HP HCo
      go_wp2_with fail
      go_ret
      obtain ⟨s', rfl, h2⟩ := HE.out
      exact ⟨⟨-1, rfl, by simp⟩, h2⟩

theorem contains_dist {α σ : Type} (f : σ → α → Bool × σ) (R : σ → World → Prop) (G : σ → Prop) (g : Nat) (lb : Array Value) (eg : ∀ args w, (callFunc g args).run Tryz.prog w = .ok (.enter g args) w)
    (zs : List α) (V0 V1 V2 V3 V4 : Nat → Value) (p : Option Addr) (b off c : Nat) (hp : zs ≠ [] → p = some ⟨b, off, none⟩) (hl : zs.length ≤ 6000000000000)
    (hread : ∀ s W j, R s W → j < zs.length → W.cell? ⟨b, off + j * 5, none⟩ = some (V0 j) ∧ W.cell? ⟨b, off + j * 5 + 1, none⟩ = some (V1 j) ∧ W.cell? ⟨b, off + j * 5 + 2, none⟩ = some (V2 j) ∧ W.cell? ⟨b, off + j * 5 + 3, none⟩ = some (V3 j) ∧ W.cell? ⟨b, off + j * 5 + 4, none⟩ = some (V4 j))
    (hcont : ∀ s j (h : j < zs.length), G s → (f s zs[j]).1 = false → G (f s zs[j]).2)
    (hcall : ∀ s W j (h : j < zs.length), G s → R s W → Calls Tryz.prog g (#[.agg #[V0 j, V1 j, V2 j, V3 j, V4 j]] ++ lb) W fun e w' => e = .returned (.bool (f s zs[j]).1) ∧ R (f s zs[j]).2 w')
    (s : σ) (w : World) (hG : G s) (hR : R s w) :
    Calls Tryz.prog 123 #[.slice p zs.length c, .func (.func g) #[] lb] w fun e w' => e = .returned (.bool (anyS f s zs).1) ∧ R (anyS f s zs).2 w' := by
  have HI := Lib.hid (index_dist f R G g lb eg zs V0 V1 V2 V3 V4 p b off c hp hl hread hcont hcall s w hG hR)
  clear hp hread hcall hcont hR hG
  go_enter Tryz.func123, Tryz.ntmps123
  go_wp2_with (go_at_call 181; refine HI.out.mono ?_; rintro e w1 ⟨⟨r, rfl, h⟩, hr⟩; have HR1 := Lib.hid hr; have H1 := Lib.hid h; clear hr h)
  all_goals
    go_ret
    exact ⟨ret_bool (by first | exact H1.out | (rw [← H1.out]; simp; try omega)), HR1.out⟩

set_option maxHeartbeats 1000000 in
/-- The program's negation of a function that lies in a cell. -/
theorem all1_dist {α σ : Type} (f : σ → α → Bool × σ) (R : σ → World → Prop) (G : σ → Prop) (L : Nat) (g : Nat) (lb : Array Value) (eg : ∀ args w, (callFunc g args).run Tryz.prog w = .ok (.enter g args) w)
    (zs : List α) (V0 V1 V2 V3 V4 : Nat → Value)
    (hkeep : ∀ s W W', R s W → Below W.heap.size W W' → R s W')
    (hcall : ∀ s W j (h : j < zs.length), G s → R s W → Calls Tryz.prog g (#[.agg #[V0 j, V1 j, V2 j, V3 j, V4 j]] ++ lb) W fun e w' => e = .returned (.bool (f s zs[j]).1) ∧ R (f s zs[j]).2 w' ∧ Kp W w' L) :
    ∀ (B : Nat) s W j (h : j < zs.length), G s → R s W → W.cell? ⟨B, 0, none⟩ = some (.func (.func g) #[] lb) → B < W.heap.size → Calls Tryz.prog 124 #[.agg #[V0 j, V1 j, V2 j, V3 j, V4 j], .pointer (some ⟨B, 0, none⟩)] W fun e w' => e = .returned (.bool (!(f s zs[j]).1)) ∧ R (f s zs[j]).2 w' ∧ Kp W w' L := by
  intro B s W j hj hG hR hc hB
  have hA := (Below.refl W.heap.size W).alloc (Nat.le_refl _) (.cells #[V0 j, V1 j, V2 j, V3 j, V4 j] 66)
  have HC := Lib.hid (hcall s _ j hj hG (hkeep s W _ hR hA))
  have HK := Lib.hid (Kp.ofBelow (sb := L) hA (Nat.le_refl _))
  have hc2 := (hA.cell (p := ⟨B, 0, none⟩) hB).trans hc
  clear hkeep hcall hc hA
  generalize V0 j = y0 at *
  generalize V1 j = y1 at *
  generalize V2 j = y2 at *
  generalize V3 j = y3 at *
  generalize V4 j = y4 at *
  generalize f s zs[j] = q at *
  go_enter Tryz.func124, Tryz.ntmps124
  go_wp2_with (go_at_fn g; (with_reducible refine HC.out.mono ?_); rintro e w1 ⟨rfl, hr⟩; have HR1 := Lib.hid hr; clear hr)
  go_ret
  exact ⟨rfl, HR1.out.1, HK.out.trans HR1.out.2⟩

set_option maxHeartbeats 1000000 in
/-- all at stopwatch/api.Distance. -/
theorem all_dist {α σ : Type} (f : σ → α → Bool × σ) (R : σ → World → Prop) (G : σ → Prop) (fn : Fn) (fs cs : Array Value) (L : Nat)
    (zs : List α) (V0 V1 V2 V3 V4 : Nat → Value) (p : Option Addr) (b off c : Nat) (hp : zs ≠ [] → p = some ⟨b, off, none⟩) (hl : zs.length ≤ 6000000000000)
    (hread : ∀ s W j, R s W → j < zs.length → W.cell? ⟨b, off + j * 5, none⟩ = some (V0 j) ∧ W.cell? ⟨b, off + j * 5 + 1, none⟩ = some (V1 j) ∧ W.cell? ⟨b, off + j * 5 + 2, none⟩ = some (V2 j) ∧ W.cell? ⟨b, off + j * 5 + 3, none⟩ = some (V3 j) ∧ W.cell? ⟨b, off + j * 5 + 4, none⟩ = some (V4 j))
    (hcont : ∀ s j (h : j < zs.length), G s → (f s zs[j]).1 = true → G (f s zs[j]).2)
    (hcall1 : ∀ (B : Nat) s W j (h : j < zs.length), G s → R s W → W.cell? ⟨B, 0, none⟩ = some (.func fn fs cs) → B < W.heap.size → Calls Tryz.prog 124 #[.agg #[V0 j, V1 j, V2 j, V3 j, V4 j], .pointer (some ⟨B, 0, none⟩)] W fun e w' => e = .returned (.bool (!(f s zs[j]).1)) ∧ R (f s zs[j]).2 w' ∧ Kp W w' L)
    (hkeep : ∀ s W W', R s W → Below W.heap.size W W' → R s W') (s : σ) (w : World) (hL : L ≠ w.heap.size) (hG : G s) (hR : R s w) :
    Calls Tryz.prog 56 #[.slice p zs.length c, .func fn fs cs] w fun e w' => e = .returned (.bool (allS f s zs).1) ∧ R (allS f s zs).2 w' ∧ Kp w w' L := by
  have hA := (Below.refl w.heap.size w).alloc (Nat.le_refl _) (.cells #[.func fn fs cs] 109)
  have hs : w.heap.size < (w.alloc (.cells #[.func fn fs cs] 109)).heap.size := by simp
  have hc0 : (w.alloc (.cells #[.func fn fs cs] 109)).cell? ⟨w.heap.size, 0, none⟩ = some (.func fn fs cs) := by simp [go_sem]
  have HC := Lib.hid (contains_dist (notS f) (fun s W => R s W ∧ Kp (w.alloc (.cells #[.func fn fs cs] 109)) W L) G 124 #[.pointer (some ⟨w.heap.size, 0, none⟩)] (enters_of Tryz.func124 (by kernel_rfl) rfl) zs V0 V1 V2 V3 V4 p b off c hp hl
    (fun s W j hW hj => hread s W j hW.1 hj)
    (fun s j hj hs hf => hcont s j hj hs (by simpa [notS] using hf)) (fun s W j hj hs2 hW => (hcall1 w.heap.size s W j hj hs2 hW.1 (kp_cell hW.2 hs hL.symm hc0) (Nat.lt_of_lt_of_le hs hW.2.size)).mono fun e w' h => ⟨h.1, h.2.1, hW.2.trans h.2.2⟩) s _ hG ⟨hkeep s w _ hR hA, Kp.refl _ _⟩)
  have HK := Lib.hid (Kp.ofBelow (sb := L) hA (Nat.le_refl _))
  rw [all_any]
  clear hp hread hcall1 hcont hkeep hR hG hA hs hc0
  generalize anyS (notS f) s zs = q at *
  have hmf : ∀ (fn : Fn) (first cap : Array Value) (w : World), (Instr.makeFunc fn first cap).run Tryz.prog w = .ok (.func fn first cap) w := fun _ _ _ _ => rfl
  go_enter Tryz.func56, Tryz.ntmps56
  go_wp2_with (go_at_call 123; refine HC.out.mono ?_; rintro e w1 ⟨rfl, hr⟩; have HR1 := Lib.hid hr; clear hr)
  go_ret
  exact ⟨rfl, HR1.out.1, HK.out.trans HR1.out.2⟩
end Go.Proofs.YtabdgnigmlpeaaaGreatDoor
/- A search through a list of stopwatch/api.Mat. -/
namespace Go.Proofs.YtabdgnigmlpeaaaGreatDoor
open Go.RowKit

set_option maxHeartbeats 2000000 in
theorem index_mat {α σ : Type} (f : σ → α → Bool × σ) (R : σ → World → Prop) (G : σ → Prop) (g : Nat) (lb : Array Value) (eg : ∀ args w, (callFunc g args).run Tryz.prog w = .ok (.enter g args) w)
    (zs : List α) (V0 V1 : Nat → Value) (p : Option Addr) (b off c : Nat) (hp : zs ≠ [] → p = some ⟨b, off, none⟩) (hl : zs.length ≤ 6000000000000)
    (hread : ∀ s W j, R s W → j < zs.length → W.cell? ⟨b, off + j * 2, none⟩ = some (V0 j) ∧ W.cell? ⟨b, off + j * 2 + 1, none⟩ = some (V1 j))
    (hcont : ∀ s j (h : j < zs.length), G s → (f s zs[j]).1 = false → G (f s zs[j]).2)
    (hcall : ∀ s W j (h : j < zs.length), G s → R s W → Calls Tryz.prog g (#[.agg #[V0 j, V1 j]] ++ lb) W fun e w' => e = .returned (.bool (f s zs[j]).1) ∧ R (f s zs[j]).2 w')
    (s : σ) (w : World) (hG : G s) (hR : R s w) :
    Calls Tryz.prog 191 #[.slice p zs.length c, .func (.func g) #[] lb] w fun e w' => FoundS (anyS f s zs).1 e ∧ R (anyS f s zs).2 w' := by
  obtain ⟨T, hT⟩ : ∃ T, anyS f s zs = T := ⟨_, rfl⟩
  rw [hT]
  have HI0 : Hid (∃ s', anyS f s' (zs.drop 0) = T ∧ R s' w ∧ G s') := Lib.hid ⟨s, hT, hR, hG⟩
  have HP := Lib.hid hp
  have HD := Lib.hid hread
  have HC := Lib.hid hcall
  have HCo := Lib.hid hcont
  clear hT hR hG hp hread hcall hcont
  go_enter Tryz.func191, Tryz.ntmps191
  go_wp2_with fail
  go_loopw [5, 8] (fun _ v wr => ∃ j : Nat, j ≤ zs.length ∧ v = .int .i64 j ∧ Hid (∃ s', anyS f s' (zs.drop j) = T ∧ R s' wr ∧ G s')) (fun _ v _ => zs.length - (intOf v).toNat)
  case atStart => exact ⟨0, Nat.zero_le _, rfl, HI0⟩
  case round =>
    obtain ⟨j, hj, rfl, HI⟩ := hrel
    clear HI0
    by_cases hlt : j < zs.length
    · have hji : (j : Int) < (zs.length : Int) := by omega
      obtain rfl := HP.out (by rintro rfl; simp at hlt)
      obtain ⟨s', h1, h2, h3⟩ := HI.out
      have HG1 : Hid ((f s' zs[j]).1 = false → G (f s' zs[j]).2) := Lib.hid fun h => HCo.out s' j hlt h3 h
      obtain ⟨y20, y21⟩ := HD.out s' wr j h2 hlt
      have HCC := Lib.hid (HC.out s' wr j hlt h3 h2)
      have HS1 : Hid ((f s' zs[j]).1 = true → T = (true, (f s' zs[j]).2)) := Lib.hid fun h => by rw [← h1, (List.getElem_cons_drop hlt).symm, anyS, if_pos h]
      have HS2 : Hid ((f s' zs[j]).1 = false → anyS f (f s' zs[j]).2 (zs.drop (j + 1)) = T) := Lib.hid fun h => by rw [← h1, (List.getElem_cons_drop hlt).symm, anyS, if_neg (by rw [h]; decide)]
      clear h1 h2 h3 HC HD HI HP HCo
      generalize V0 j = y0 at *
      generalize V1 j = y1 at *
      generalize f s' zs[j] = q at *
      obtain ⟨q1, q2⟩ := q
      simp only at HCC HS1 HS2 HG1
      cases q1 with
      | true =>
        obtain rfl := HS1.out rfl
        clear HS1 HS2
        go_wp2_with (go_at_fn g; (with_reducible refine HCC.out.mono ?_); rintro e w1 ⟨rfl, hr⟩; have HR1 := Lib.hid hr; clear hr)
        go_ret
        exact ⟨⟨j, rfl, by simp⟩, HR1.out⟩
      | false =>
        have HS3 := Lib.hid (HS2.out rfl)
        have HG3 := Lib.hid (HG1.out rfl)
        clear HS1 HS2 HG1
        go_wp2_with (go_at_fn g; (with_reducible refine HCC.out.mono ?_); rintro e w1 ⟨rfl, hr⟩; have HR1 := Lib.hid hr; clear hr)
        go_round
        case rel => exact ⟨j + 1, by omega, by go_num, Lib.hid ⟨q2, HS3.out, HR1.out, HG3.out⟩⟩
        case measure => simp [intOf]; omega
    · have hji : ¬ (j : Int) < (zs.length : Int) := by omega
      have HE : Hid (∃ s', T = (false, s') ∧ R s' wr) := Lib.hid (by
        obtain ⟨s', h1, h2, _⟩ := HI.out
        rw [List.drop_of_length_le (by omega), anyS] at h1
        exact ⟨s', h1.symm, h2⟩)
      clear HC HD HI HP HCo
      go_wp2_with fail
      go_ret
      obtain ⟨s', rfl, h2⟩ := HE.out
      exact ⟨⟨-1, rfl, by simp⟩, h2⟩

theorem contains_mat {α σ : Type} (f : σ → α → Bool × σ) (R : σ → World → Prop) (G : σ → Prop) (g : Nat) (lb : Array Value) (eg : ∀ args w, (callFunc g args).run Tryz.prog w = .ok (.enter g args) w)
    (zs : List α) (V0 V1 : Nat → Value) (p : Option Addr) (b off c : Nat) (hp : zs ≠ [] → p = some ⟨b, off, none⟩) (hl : zs.length ≤ 6000000000000)
    (hread : ∀ s W j, R s W → j < zs.length → W.cell? ⟨b, off + j * 2, none⟩ = some (V0 j) ∧ W.cell? ⟨b, off + j * 2 + 1, none⟩ = some (V1 j))
    (hcont : ∀ s j (h : j < zs.length), G s → (f s zs[j]).1 = false → G (f s zs[j]).2)
    (hcall : ∀ s W j (h : j < zs.length), G s → R s W → Calls Tryz.prog g (#[.agg #[V0 j, V1 j]] ++ lb) W fun e w' => e = .returned (.bool (f s zs[j]).1) ∧ R (f s zs[j]).2 w')
    (s : σ) (w : World) (hG : G s) (hR : R s w) :
    Calls Tryz.prog 138 #[.slice p zs.length c, .func (.func g) #[] lb] w fun e w' => e = .returned (.bool (anyS f s zs).1) ∧ R (anyS f s zs).2 w' := by
  have HI := Lib.hid (index_mat f R G g lb eg zs V0 V1 p b off c hp hl hread hcont hcall s w hG hR)
  clear hp hread hcall hcont hR hG
  go_enter Tryz.func138, Tryz.ntmps138
  go_wp2_with (go_at_call 191; refine HI.out.mono ?_; rintro e w1 ⟨⟨r, rfl, h⟩, hr⟩; have HR1 := Lib.hid hr; have H1 := Lib.hid h; clear hr h)
  all_goals
    go_ret
    exact ⟨ret_bool (by first | exact H1.out | (rw [← H1.out]; simp; try omega)), HR1.out⟩

set_option maxHeartbeats 1000000 in
/-- The program's negation of a function that lies in a cell. -/
theorem all1_mat {α σ : Type} (f : σ → α → Bool × σ) (R : σ → World → Prop) (G : σ → Prop) (L : Nat) (g : Nat) (lb : Array Value) (eg : ∀ args w, (callFunc g args).run Tryz.prog w = .ok (.enter g args) w)
    (zs : List α) (V0 V1 : Nat → Value)
    (hkeep : ∀ s W W', R s W → Below W.heap.size W W' → R s W')
    (hcall : ∀ s W j (h : j < zs.length), G s → R s W → Calls Tryz.prog g (#[.agg #[V0 j, V1 j]] ++ lb) W fun e w' => e = .returned (.bool (f s zs[j]).1) ∧ R (f s zs[j]).2 w' ∧ Kp W w' L) :
    ∀ (B : Nat) s W j (h : j < zs.length), G s → R s W → W.cell? ⟨B, 0, none⟩ = some (.func (.func g) #[] lb) → B < W.heap.size → Calls Tryz.prog 139 #[.agg #[V0 j, V1 j], .pointer (some ⟨B, 0, none⟩)] W fun e w' => e = .returned (.bool (!(f s zs[j]).1)) ∧ R (f s zs[j]).2 w' ∧ Kp W w' L := by
  intro B s W j hj hG hR hc hB
  have hA := (Below.refl W.heap.size W).alloc (Nat.le_refl _) (.cells #[V0 j, V1 j] 70)
  have HC := Lib.hid (hcall s _ j hj hG (hkeep s W _ hR hA))
  have HK := Lib.hid (Kp.ofBelow (sb := L) hA (Nat.le_refl _))
  have hc2 := (hA.cell (p := ⟨B, 0, none⟩) hB).trans hc
  clear hkeep hcall hc hA
  generalize V0 j = y0 at *
  generalize V1 j = y1 at *
  generalize f s zs[j] = q at *
  go_enter Tryz.func139, Tryz.ntmps139
  go_wp2_with (go_at_fn g; (with_reducible refine HC.out.mono ?_); rintro e w1 ⟨rfl, hr⟩; have HR1 := Lib.hid hr; clear hr)
  go_ret
  exact ⟨rfl, HR1.out.1, HK.out.trans HR1.out.2⟩

set_option maxHeartbeats 1000000 in
/-- all at stopwatch/api.Mat. -/
theorem all_mat {α σ : Type} (f : σ → α → Bool × σ) (R : σ → World → Prop) (G : σ → Prop) (fn : Fn) (fs cs : Array Value) (L : Nat)
    (zs : List α) (V0 V1 : Nat → Value) (p : Option Addr) (b off c : Nat) (hp : zs ≠ [] → p = some ⟨b, off, none⟩) (hl : zs.length ≤ 6000000000000)
    (hread : ∀ s W j, R s W → j < zs.length → W.cell? ⟨b, off + j * 2, none⟩ = some (V0 j) ∧ W.cell? ⟨b, off + j * 2 + 1, none⟩ = some (V1 j))
    (hcont : ∀ s j (h : j < zs.length), G s → (f s zs[j]).1 = true → G (f s zs[j]).2)
    (hcall1 : ∀ (B : Nat) s W j (h : j < zs.length), G s → R s W → W.cell? ⟨B, 0, none⟩ = some (.func fn fs cs) → B < W.heap.size → Calls Tryz.prog 139 #[.agg #[V0 j, V1 j], .pointer (some ⟨B, 0, none⟩)] W fun e w' => e = .returned (.bool (!(f s zs[j]).1)) ∧ R (f s zs[j]).2 w' ∧ Kp W w' L)
    (hkeep : ∀ s W W', R s W → Below W.heap.size W W' → R s W') (s : σ) (w : World) (hL : L ≠ w.heap.size) (hG : G s) (hR : R s w) :
    Calls Tryz.prog 75 #[.slice p zs.length c, .func fn fs cs] w fun e w' => e = .returned (.bool (allS f s zs).1) ∧ R (allS f s zs).2 w' ∧ Kp w w' L := by
  have hA := (Below.refl w.heap.size w).alloc (Nat.le_refl _) (.cells #[.func fn fs cs] 128)
  have hs : w.heap.size < (w.alloc (.cells #[.func fn fs cs] 128)).heap.size := by simp
  have hc0 : (w.alloc (.cells #[.func fn fs cs] 128)).cell? ⟨w.heap.size, 0, none⟩ = some (.func fn fs cs) := by simp [go_sem]
  have HC := Lib.hid (contains_mat (notS f) (fun s W => R s W ∧ Kp (w.alloc (.cells #[.func fn fs cs] 128)) W L) G 139 #[.pointer (some ⟨w.heap.size, 0, none⟩)] (enters_of Tryz.func139 (by kernel_rfl) rfl) zs V0 V1 p b off c hp hl
    (fun s W j hW hj => hread s W j hW.1 hj)
    (fun s j hj hs hf => hcont s j hj hs (by simpa [notS] using hf)) (fun s W j hj hs2 hW => (hcall1 w.heap.size s W j hj hs2 hW.1 (kp_cell hW.2 hs hL.symm hc0) (Nat.lt_of_lt_of_le hs hW.2.size)).mono fun e w' h => ⟨h.1, h.2.1, hW.2.trans h.2.2⟩) s _ hG ⟨hkeep s w _ hR hA, Kp.refl _ _⟩)
  have HK := Lib.hid (Kp.ofBelow (sb := L) hA (Nat.le_refl _))
  rw [all_any]
  clear hp hread hcall1 hcont hkeep hR hG hA hs hc0
  generalize anyS (notS f) s zs = q at *
  have hmf : ∀ (fn : Fn) (first cap : Array Value) (w : World), (Instr.makeFunc fn first cap).run Tryz.prog w = .ok (.func fn first cap) w := fun _ _ _ _ => rfl
  go_enter Tryz.func75, Tryz.ntmps75
  go_wp2_with (go_at_call 138; refine HC.out.mono ?_; rintro e w1 ⟨rfl, hr⟩; have HR1 := Lib.hid hr; clear hr)
  go_ret
  exact ⟨rfl, HR1.out.1, HK.out.trans HR1.out.2⟩
end Go.Proofs.YtabdgnigmlpeaaaGreatDoor
/- A search through a list of stopwatch/api.Leg. -/
namespace Go.Proofs.YtabdgnigmlpeaaaGreatDoor
open Go.RowKit

set_option maxHeartbeats 2000000 in
theorem index_leg {α σ : Type} (f : σ → α → Bool × σ) (R : σ → World → Prop) (G : σ → Prop) (g : Nat) (lb : Array Value) (eg : ∀ args w, (callFunc g args).run Tryz.prog w = .ok (.enter g args) w)
    (zs : List α) (V0 V1 V2 V3 : Nat → Value) (p : Option Addr) (b off c : Nat) (hp : zs ≠ [] → p = some ⟨b, off, none⟩) (hl : zs.length ≤ 6000000000000)
    (hread : ∀ s W j, R s W → j < zs.length → W.cell? ⟨b, off + j * 4, none⟩ = some (V0 j) ∧ W.cell? ⟨b, off + j * 4 + 1, none⟩ = some (V1 j) ∧ W.cell? ⟨b, off + j * 4 + 2, none⟩ = some (V2 j) ∧ W.cell? ⟨b, off + j * 4 + 3, none⟩ = some (V3 j))
    (hcont : ∀ s j (h : j < zs.length), G s → (f s zs[j]).1 = false → G (f s zs[j]).2)
    (hcall : ∀ s W j (h : j < zs.length), G s → R s W → Calls Tryz.prog g (#[.agg #[V0 j, V1 j, V2 j, V3 j]] ++ lb) W fun e w' => e = .returned (.bool (f s zs[j]).1) ∧ R (f s zs[j]).2 w')
    (s : σ) (w : World) (hG : G s) (hR : R s w) :
    Calls Tryz.prog 192 #[.slice p zs.length c, .func (.func g) #[] lb] w fun e w' => FoundS (anyS f s zs).1 e ∧ R (anyS f s zs).2 w' := by
  obtain ⟨T, hT⟩ : ∃ T, anyS f s zs = T := ⟨_, rfl⟩
  rw [hT]
  have HI0 : Hid (∃ s', anyS f s' (zs.drop 0) = T ∧ R s' w ∧ G s') := Lib.hid ⟨s, hT, hR, hG⟩
  have HP := Lib.hid hp
  have HD := Lib.hid hread
  have HC := Lib.hid hcall
  have HCo := Lib.hid hcont
  clear hT hR hG hp hread hcall hcont
  go_enter Tryz.func192, Tryz.ntmps192
  go_wp2_with fail
  go_loopw [5, 8] (fun _ v wr => ∃ j : Nat, j ≤ zs.length ∧ v = .int .i64 j ∧ Hid (∃ s', anyS f s' (zs.drop j) = T ∧ R s' wr ∧ G s')) (fun _ v _ => zs.length - (intOf v).toNat)
  case atStart => exact ⟨0, Nat.zero_le _, rfl, HI0⟩
  case round =>
    obtain ⟨j, hj, rfl, HI⟩ := hrel
    clear HI0
    by_cases hlt : j < zs.length
    · have hji : (j : Int) < (zs.length : Int) := by omega
      obtain rfl := HP.out (by rintro rfl; simp at hlt)
      obtain ⟨s', h1, h2, h3⟩ := HI.out
      have HG1 : Hid ((f s' zs[j]).1 = false → G (f s' zs[j]).2) := Lib.hid fun h => HCo.out s' j hlt h3 h
      obtain ⟨y20, y21, y22, y23⟩ := HD.out s' wr j h2 hlt
      have HCC := Lib.hid (HC.out s' wr j hlt h3 h2)
      have HS1 : Hid ((f s' zs[j]).1 = true → T = (true, (f s' zs[j]).2)) := Lib.hid fun h => by rw [← h1, (List.getElem_cons_drop hlt).symm, anyS, if_pos h]
      have HS2 : Hid ((f s' zs[j]).1 = false → anyS f (f s' zs[j]).2 (zs.drop (j + 1)) = T) := Lib.hid fun h => by rw [← h1, (List.getElem_cons_drop hlt).symm, anyS, if_neg (by rw [h]; decide)]
      clear h1 h2 h3 HC HD HI HP HCo
      generalize V0 j = y0 at *
      generalize V1 j = y1 at *
      generalize V2 j = y2 at *
      generalize V3 j = y3 at *
      generalize f s' zs[j] = q at *
      obtain ⟨q1, q2⟩ := q
      simp only at HCC HS1 HS2 HG1
      cases q1 with
      | true =>
        obtain rfl := HS1.out rfl
        clear HS1 HS2
        go_wp2_with (go_at_fn g; (with_reducible refine HCC.out.mono ?_); rintro e w1 ⟨rfl, hr⟩; have HR1 := Lib.hid hr; clear hr)
        go_ret
        exact ⟨⟨j, rfl, by simp⟩, HR1.out⟩
      | false =>
        have HS3 := Lib.hid (HS2.out rfl)
        have HG3 := Lib.hid (HG1.out rfl)
        clear HS1 HS2 HG1
        go_wp2_with (go_at_fn g; (with_reducible refine HCC.out.mono ?_); rintro e w1 ⟨rfl, hr⟩; have HR1 := Lib.hid hr; clear hr)
        go_round
        case rel => exact ⟨j + 1, by omega, by go_num, Lib.hid ⟨q2, HS3.out, HR1.out, HG3.out⟩⟩
        case measure => simp [intOf]; omega
    · have hji : ¬ (j : Int) < (zs.length : Int) := by omega
      have HE : Hid (∃ s', T = (false, s') ∧ R s' wr) := Lib.hid (by
        obtain ⟨s', h1, h2, _⟩ := HI.out
        rw [List.drop_of_length_le (by omega), anyS] at h1
        exact ⟨s', h1.symm, h2⟩)
      clear HC HD HI HP HCo
      go_wp2_with fail
      go_ret
      obtain ⟨s', rfl, h2⟩ := HE.out
      exact ⟨⟨-1, rfl, by simp⟩, h2⟩

theorem contains_leg {α σ : Type} (f : σ → α → Bool × σ) (R : σ → World → Prop) (G : σ → Prop) (g : Nat) (lb : Array Value) (eg : ∀ args w, (callFunc g args).run Tryz.prog w = .ok (.enter g args) w)
    (zs : List α) (V0 V1 V2 V3 : Nat → Value) (p : Option Addr) (b off c : Nat) (hp : zs ≠ [] → p = some ⟨b, off, none⟩) (hl : zs.length ≤ 6000000000000)
    (hread : ∀ s W j, R s W → j < zs.length → W.cell? ⟨b, off + j * 4, none⟩ = some (V0 j) ∧ W.cell? ⟨b, off + j * 4 + 1, none⟩ = some (V1 j) ∧ W.cell? ⟨b, off + j * 4 + 2, none⟩ = some (V2 j) ∧ W.cell? ⟨b, off + j * 4 + 3, none⟩ = some (V3 j))
    (hcont : ∀ s j (h : j < zs.length), G s → (f s zs[j]).1 = false → G (f s zs[j]).2)
    (hcall : ∀ s W j (h : j < zs.length), G s → R s W → Calls Tryz.prog g (#[.agg #[V0 j, V1 j, V2 j, V3 j]] ++ lb) W fun e w' => e = .returned (.bool (f s zs[j]).1) ∧ R (f s zs[j]).2 w')
    (s : σ) (w : World) (hG : G s) (hR : R s w) :
    Calls Tryz.prog 140 #[.slice p zs.length c, .func (.func g) #[] lb] w fun e w' => e = .returned (.bool (anyS f s zs).1) ∧ R (anyS f s zs).2 w' := by
  have HI := Lib.hid (index_leg f R G g lb eg zs V0 V1 V2 V3 p b off c hp hl hread hcont hcall s w hG hR)
  clear hp hread hcall hcont hR hG
  go_enter Tryz.func140, Tryz.ntmps140
  go_wp2_with (go_at_call 192; refine HI.out.mono ?_; rintro e w1 ⟨⟨r, rfl, h⟩, hr⟩; have HR1 := Lib.hid hr; have H1 := Lib.hid h; clear hr h)
  all_goals
    go_ret
    exact ⟨ret_bool (by first | exact H1.out | (rw [← H1.out]; simp; try omega)), HR1.out⟩

set_option maxHeartbeats 1000000 in
/-- The program's negation of a function that lies in a cell. -/
theorem all1_leg {α σ : Type} (f : σ → α → Bool × σ) (R : σ → World → Prop) (G : σ → Prop) (L : Nat) (g : Nat) (lb : Array Value) (eg : ∀ args w, (callFunc g args).run Tryz.prog w = .ok (.enter g args) w)
    (zs : List α) (V0 V1 V2 V3 : Nat → Value)
    (hkeep : ∀ s W W', R s W → Below W.heap.size W W' → R s W')
    (hcall : ∀ s W j (h : j < zs.length), G s → R s W → Calls Tryz.prog g (#[.agg #[V0 j, V1 j, V2 j, V3 j]] ++ lb) W fun e w' => e = .returned (.bool (f s zs[j]).1) ∧ R (f s zs[j]).2 w' ∧ Kp W w' L) :
    ∀ (B : Nat) s W j (h : j < zs.length), G s → R s W → W.cell? ⟨B, 0, none⟩ = some (.func (.func g) #[] lb) → B < W.heap.size → Calls Tryz.prog 141 #[.agg #[V0 j, V1 j, V2 j, V3 j], .pointer (some ⟨B, 0, none⟩)] W fun e w' => e = .returned (.bool (!(f s zs[j]).1)) ∧ R (f s zs[j]).2 w' ∧ Kp W w' L := by
  intro B s W j hj hG hR hc hB
  have hA := (Below.refl W.heap.size W).alloc (Nat.le_refl _) (.cells #[V0 j, V1 j, V2 j, V3 j] 72)
  have HC := Lib.hid (hcall s _ j hj hG (hkeep s W _ hR hA))
  have HK := Lib.hid (Kp.ofBelow (sb := L) hA (Nat.le_refl _))
  have hc2 := (hA.cell (p := ⟨B, 0, none⟩) hB).trans hc
  clear hkeep hcall hc hA
  generalize V0 j = y0 at *
  generalize V1 j = y1 at *
  generalize V2 j = y2 at *
  generalize V3 j = y3 at *
  generalize f s zs[j] = q at *
  go_enter Tryz.func141, Tryz.ntmps141
  go_wp2_with (go_at_fn g; (with_reducible refine HC.out.mono ?_); rintro e w1 ⟨rfl, hr⟩; have HR1 := Lib.hid hr; clear hr)
  go_ret
  exact ⟨rfl, HR1.out.1, HK.out.trans HR1.out.2⟩

set_option maxHeartbeats 1000000 in
/-- all at stopwatch/api.Leg. -/
theorem all_leg {α σ : Type} (f : σ → α → Bool × σ) (R : σ → World → Prop) (G : σ → Prop) (fn : Fn) (fs cs : Array Value) (L : Nat)
    (zs : List α) (V0 V1 V2 V3 : Nat → Value) (p : Option Addr) (b off c : Nat) (hp : zs ≠ [] → p = some ⟨b, off, none⟩) (hl : zs.length ≤ 6000000000000)
    (hread : ∀ s W j, R s W → j < zs.length → W.cell? ⟨b, off + j * 4, none⟩ = some (V0 j) ∧ W.cell? ⟨b, off + j * 4 + 1, none⟩ = some (V1 j) ∧ W.cell? ⟨b, off + j * 4 + 2, none⟩ = some (V2 j) ∧ W.cell? ⟨b, off + j * 4 + 3, none⟩ = some (V3 j))
    (hcont : ∀ s j (h : j < zs.length), G s → (f s zs[j]).1 = true → G (f s zs[j]).2)
    (hcall1 : ∀ (B : Nat) s W j (h : j < zs.length), G s → R s W → W.cell? ⟨B, 0, none⟩ = some (.func fn fs cs) → B < W.heap.size → Calls Tryz.prog 141 #[.agg #[V0 j, V1 j, V2 j, V3 j], .pointer (some ⟨B, 0, none⟩)] W fun e w' => e = .returned (.bool (!(f s zs[j]).1)) ∧ R (f s zs[j]).2 w' ∧ Kp W w' L)
    (hkeep : ∀ s W W', R s W → Below W.heap.size W W' → R s W') (s : σ) (w : World) (hL : L ≠ w.heap.size) (hG : G s) (hR : R s w) :
    Calls Tryz.prog 77 #[.slice p zs.length c, .func fn fs cs] w fun e w' => e = .returned (.bool (allS f s zs).1) ∧ R (allS f s zs).2 w' ∧ Kp w w' L := by
  have hA := (Below.refl w.heap.size w).alloc (Nat.le_refl _) (.cells #[.func fn fs cs] 125)
  have hs : w.heap.size < (w.alloc (.cells #[.func fn fs cs] 125)).heap.size := by simp
  have hc0 : (w.alloc (.cells #[.func fn fs cs] 125)).cell? ⟨w.heap.size, 0, none⟩ = some (.func fn fs cs) := by simp [go_sem]
  have HC := Lib.hid (contains_leg (notS f) (fun s W => R s W ∧ Kp (w.alloc (.cells #[.func fn fs cs] 125)) W L) G 141 #[.pointer (some ⟨w.heap.size, 0, none⟩)] (enters_of Tryz.func141 (by kernel_rfl) rfl) zs V0 V1 V2 V3 p b off c hp hl
    (fun s W j hW hj => hread s W j hW.1 hj)
    (fun s j hj hs hf => hcont s j hj hs (by simpa [notS] using hf)) (fun s W j hj hs2 hW => (hcall1 w.heap.size s W j hj hs2 hW.1 (kp_cell hW.2 hs hL.symm hc0) (Nat.lt_of_lt_of_le hs hW.2.size)).mono fun e w' h => ⟨h.1, h.2.1, hW.2.trans h.2.2⟩) s _ hG ⟨hkeep s w _ hR hA, Kp.refl _ _⟩)
  have HK := Lib.hid (Kp.ofBelow (sb := L) hA (Nat.le_refl _))
  rw [all_any]
  clear hp hread hcall1 hcont hkeep hR hG hA hs hc0
  generalize anyS (notS f) s zs = q at *
  have hmf : ∀ (fn : Fn) (first cap : Array Value) (w : World), (Instr.makeFunc fn first cap).run Tryz.prog w = .ok (.func fn first cap) w := fun _ _ _ _ => rfl
  go_enter Tryz.func77, Tryz.ntmps77
  go_wp2_with (go_at_call 140; refine HC.out.mono ?_; rintro e w1 ⟨rfl, hr⟩; have HR1 := Lib.hid hr; clear hr)
  go_ret
  exact ⟨rfl, HR1.out.1, HK.out.trans HR1.out.2⟩
end Go.Proofs.YtabdgnigmlpeaaaGreatDoor
/- A search through a list of stopwatch/api.Wave. -/
namespace Go.Proofs.YtabdgnigmlpeaaaGreatDoor
open Go.RowKit

set_option maxHeartbeats 2000000 in
theorem index_wave {α σ : Type} (f : σ → α → Bool × σ) (R : σ → World → Prop) (G : σ → Prop) (g : Nat) (lb : Array Value) (eg : ∀ args w, (callFunc g args).run Tryz.prog w = .ok (.enter g args) w)
    (zs : List α) (V0 V1 : Nat → Value) (p : Option Addr) (b off c : Nat) (hp : zs ≠ [] → p = some ⟨b, off, none⟩) (hl : zs.length ≤ 6000000000000)
    (hread : ∀ s W j, R s W → j < zs.length → W.cell? ⟨b, off + j * 2, none⟩ = some (V0 j) ∧ W.cell? ⟨b, off + j * 2 + 1, none⟩ = some (V1 j))
    (hcont : ∀ s j (h : j < zs.length), G s → (f s zs[j]).1 = false → G (f s zs[j]).2)
    (hcall : ∀ s W j (h : j < zs.length), G s → R s W → Calls Tryz.prog g (#[.agg #[V0 j, V1 j]] ++ lb) W fun e w' => e = .returned (.bool (f s zs[j]).1) ∧ R (f s zs[j]).2 w')
    (s : σ) (w : World) (hG : G s) (hR : R s w) :
    Calls Tryz.prog 196 #[.slice p zs.length c, .func (.func g) #[] lb] w fun e w' => FoundS (anyS f s zs).1 e ∧ R (anyS f s zs).2 w' := by
  obtain ⟨T, hT⟩ : ∃ T, anyS f s zs = T := ⟨_, rfl⟩
  rw [hT]
  have HI0 : Hid (∃ s', anyS f s' (zs.drop 0) = T ∧ R s' w ∧ G s') := Lib.hid ⟨s, hT, hR, hG⟩
  have HP := Lib.hid hp
  have HD := Lib.hid hread
  have HC := Lib.hid hcall
  have HCo := Lib.hid hcont
  clear hT hR hG hp hread hcall hcont
  go_enter Tryz.func196, Tryz.ntmps196
  go_wp2_with fail
  go_loopw [5, 8] (fun _ v wr => ∃ j : Nat, j ≤ zs.length ∧ v = .int .i64 j ∧ Hid (∃ s', anyS f s' (zs.drop j) = T ∧ R s' wr ∧ G s')) (fun _ v _ => zs.length - (intOf v).toNat)
  case atStart => exact ⟨0, Nat.zero_le _, rfl, HI0⟩
  case round =>
    obtain ⟨j, hj, rfl, HI⟩ := hrel
    clear HI0
    by_cases hlt : j < zs.length
    · have hji : (j : Int) < (zs.length : Int) := by omega
      obtain rfl := HP.out (by rintro rfl; simp at hlt)
      obtain ⟨s', h1, h2, h3⟩ := HI.out
      have HG1 : Hid ((f s' zs[j]).1 = false → G (f s' zs[j]).2) := Lib.hid fun h => HCo.out s' j hlt h3 h
      obtain ⟨y20, y21⟩ := HD.out s' wr j h2 hlt
      have HCC := Lib.hid (HC.out s' wr j hlt h3 h2)
      have HS1 : Hid ((f s' zs[j]).1 = true → T = (true, (f s' zs[j]).2)) := Lib.hid fun h => by rw [← h1, (List.getElem_cons_drop hlt).symm, anyS, if_pos h]
      have HS2 : Hid ((f s' zs[j]).1 = false → anyS f (f s' zs[j]).2 (zs.drop (j + 1)) = T) := Lib.hid fun h => by rw [← h1, (List.getElem_cons_drop hlt).symm, anyS, if_neg (by rw [h]; decide)]
      clear h1 h2 h3 HC HD HI HP HCo
      generalize V0 j = y0 at *
      generalize V1 j = y1 at *
      generalize f s' zs[j] = q at *
      obtain ⟨q1, q2⟩ := q
      simp only at HCC HS1 HS2 HG1
      cases q1 with
      | true =>
        obtain rfl := HS1.out rfl
        clear HS1 HS2
        go_wp2_with (go_at_fn g; (with_reducible refine HCC.out.mono ?_); rintro e w1 ⟨rfl, hr⟩; have HR1 := Lib.hid hr; clear hr)
        go_ret
        exact ⟨⟨j, rfl, by simp⟩, HR1.out⟩
      | false =>
        have HS3 := Lib.hid (HS2.out rfl)
        have HG3 := Lib.hid (HG1.out rfl)
        clear HS1 HS2 HG1
        go_wp2_with (go_at_fn g; (with_reducible refine HCC.out.mono ?_); rintro e w1 ⟨rfl, hr⟩; have HR1 := Lib.hid hr; clear hr)
        go_round
        case rel => exact ⟨j + 1, by omega, by go_num, Lib.hid ⟨q2, HS3.out, HR1.out, HG3.out⟩⟩
        case measure => simp [intOf]; omega
    · have hji : ¬ (j : Int) < (zs.length : Int) := by omega
      have HE : Hid (∃ s', T = (false, s') ∧ R s' wr) := Lib.hid (by
        obtain ⟨s', h1, h2, _⟩ := HI.out
        rw [List.drop_of_length_le (by omega), anyS] at h1
        exact ⟨s', h1.symm, h2⟩)
      clear HC HD HI HP HCo
      go_wp2_with fail
      go_ret
      obtain ⟨s', rfl, h2⟩ := HE.out
      exact ⟨⟨-1, rfl, by simp⟩, h2⟩

theorem contains_wave {α σ : Type} (f : σ → α → Bool × σ) (R : σ → World → Prop) (G : σ → Prop) (g : Nat) (lb : Array Value) (eg : ∀ args w, (callFunc g args).run Tryz.prog w = .ok (.enter g args) w)
    (zs : List α) (V0 V1 : Nat → Value) (p : Option Addr) (b off c : Nat) (hp : zs ≠ [] → p = some ⟨b, off, none⟩) (hl : zs.length ≤ 6000000000000)
    (hread : ∀ s W j, R s W → j < zs.length → W.cell? ⟨b, off + j * 2, none⟩ = some (V0 j) ∧ W.cell? ⟨b, off + j * 2 + 1, none⟩ = some (V1 j))
    (hcont : ∀ s j (h : j < zs.length), G s → (f s zs[j]).1 = false → G (f s zs[j]).2)
    (hcall : ∀ s W j (h : j < zs.length), G s → R s W → Calls Tryz.prog g (#[.agg #[V0 j, V1 j]] ++ lb) W fun e w' => e = .returned (.bool (f s zs[j]).1) ∧ R (f s zs[j]).2 w')
    (s : σ) (w : World) (hG : G s) (hR : R s w) :
    Calls Tryz.prog 145 #[.slice p zs.length c, .func (.func g) #[] lb] w fun e w' => e = .returned (.bool (anyS f s zs).1) ∧ R (anyS f s zs).2 w' := by
  have HI := Lib.hid (index_wave f R G g lb eg zs V0 V1 p b off c hp hl hread hcont hcall s w hG hR)
  clear hp hread hcall hcont hR hG
  go_enter Tryz.func145, Tryz.ntmps145
  go_wp2_with (go_at_call 196; refine HI.out.mono ?_; rintro e w1 ⟨⟨r, rfl, h⟩, hr⟩; have HR1 := Lib.hid hr; have H1 := Lib.hid h; clear hr h)
  all_goals
    go_ret
    exact ⟨ret_bool (by first | exact H1.out | (rw [← H1.out]; simp; try omega)), HR1.out⟩

set_option maxHeartbeats 1000000 in
/-- The program's negation of a function that lies in a cell. -/
theorem all1_wave {α σ : Type} (f : σ → α → Bool × σ) (R : σ → World → Prop) (G : σ → Prop) (L : Nat) (g : Nat) (lb : Array Value) (eg : ∀ args w, (callFunc g args).run Tryz.prog w = .ok (.enter g args) w)
    (zs : List α) (V0 V1 : Nat → Value)
    (hkeep : ∀ s W W', R s W → Below W.heap.size W W' → R s W')
    (hcall : ∀ s W j (h : j < zs.length), G s → R s W → Calls Tryz.prog g (#[.agg #[V0 j, V1 j]] ++ lb) W fun e w' => e = .returned (.bool (f s zs[j]).1) ∧ R (f s zs[j]).2 w' ∧ Kp W w' L) :
    ∀ (B : Nat) s W j (h : j < zs.length), G s → R s W → W.cell? ⟨B, 0, none⟩ = some (.func (.func g) #[] lb) → B < W.heap.size → Calls Tryz.prog 146 #[.agg #[V0 j, V1 j], .pointer (some ⟨B, 0, none⟩)] W fun e w' => e = .returned (.bool (!(f s zs[j]).1)) ∧ R (f s zs[j]).2 w' ∧ Kp W w' L := by
  intro B s W j hj hG hR hc hB
  have hA := (Below.refl W.heap.size W).alloc (Nat.le_refl _) (.cells #[V0 j, V1 j] 81)
  have HC := Lib.hid (hcall s _ j hj hG (hkeep s W _ hR hA))
  have HK := Lib.hid (Kp.ofBelow (sb := L) hA (Nat.le_refl _))
  have hc2 := (hA.cell (p := ⟨B, 0, none⟩) hB).trans hc
  clear hkeep hcall hc hA
  generalize V0 j = y0 at *
  generalize V1 j = y1 at *
  generalize f s zs[j] = q at *
  go_enter Tryz.func146, Tryz.ntmps146
  go_wp2_with (go_at_fn g; (with_reducible refine HC.out.mono ?_); rintro e w1 ⟨rfl, hr⟩; have HR1 := Lib.hid hr; clear hr)
  go_ret
  exact ⟨rfl, HR1.out.1, HK.out.trans HR1.out.2⟩

set_option maxHeartbeats 1000000 in
/-- all at stopwatch/api.Wave. -/
theorem all_wave {α σ : Type} (f : σ → α → Bool × σ) (R : σ → World → Prop) (G : σ → Prop) (fn : Fn) (fs cs : Array Value) (L : Nat)
    (zs : List α) (V0 V1 : Nat → Value) (p : Option Addr) (b off c : Nat) (hp : zs ≠ [] → p = some ⟨b, off, none⟩) (hl : zs.length ≤ 6000000000000)
    (hread : ∀ s W j, R s W → j < zs.length → W.cell? ⟨b, off + j * 2, none⟩ = some (V0 j) ∧ W.cell? ⟨b, off + j * 2 + 1, none⟩ = some (V1 j))
    (hcont : ∀ s j (h : j < zs.length), G s → (f s zs[j]).1 = true → G (f s zs[j]).2)
    (hcall1 : ∀ (B : Nat) s W j (h : j < zs.length), G s → R s W → W.cell? ⟨B, 0, none⟩ = some (.func fn fs cs) → B < W.heap.size → Calls Tryz.prog 146 #[.agg #[V0 j, V1 j], .pointer (some ⟨B, 0, none⟩)] W fun e w' => e = .returned (.bool (!(f s zs[j]).1)) ∧ R (f s zs[j]).2 w' ∧ Kp W w' L)
    (hkeep : ∀ s W W', R s W → Below W.heap.size W W' → R s W') (s : σ) (w : World) (hL : L ≠ w.heap.size) (hG : G s) (hR : R s w) :
    Calls Tryz.prog 82 #[.slice p zs.length c, .func fn fs cs] w fun e w' => e = .returned (.bool (allS f s zs).1) ∧ R (allS f s zs).2 w' ∧ Kp w w' L := by
  have hA := (Below.refl w.heap.size w).alloc (Nat.le_refl _) (.cells #[.func fn fs cs] 136)
  have hs : w.heap.size < (w.alloc (.cells #[.func fn fs cs] 136)).heap.size := by simp
  have hc0 : (w.alloc (.cells #[.func fn fs cs] 136)).cell? ⟨w.heap.size, 0, none⟩ = some (.func fn fs cs) := by simp [go_sem]
  have HC := Lib.hid (contains_wave (notS f) (fun s W => R s W ∧ Kp (w.alloc (.cells #[.func fn fs cs] 136)) W L) G 146 #[.pointer (some ⟨w.heap.size, 0, none⟩)] (enters_of Tryz.func146 (by kernel_rfl) rfl) zs V0 V1 p b off c hp hl
    (fun s W j hW hj => hread s W j hW.1 hj)
    (fun s j hj hs hf => hcont s j hj hs (by simpa [notS] using hf)) (fun s W j hj hs2 hW => (hcall1 w.heap.size s W j hj hs2 hW.1 (kp_cell hW.2 hs hL.symm hc0) (Nat.lt_of_lt_of_le hs hW.2.size)).mono fun e w' h => ⟨h.1, h.2.1, hW.2.trans h.2.2⟩) s _ hG ⟨hkeep s w _ hR hA, Kp.refl _ _⟩)
  have HK := Lib.hid (Kp.ofBelow (sb := L) hA (Nat.le_refl _))
  rw [all_any]
  clear hp hread hcall1 hcont hkeep hR hG hA hs hc0
  generalize anyS (notS f) s zs = q at *
  have hmf : ∀ (fn : Fn) (first cap : Array Value) (w : World), (Instr.makeFunc fn first cap).run Tryz.prog w = .ok (.func fn first cap) w := fun _ _ _ _ => rfl
  go_enter Tryz.func82, Tryz.ntmps82
  go_wp2_with (go_at_call 145; refine HC.out.mono ?_; rintro e w1 ⟨rfl, hr⟩; have HR1 := Lib.hid hr; clear hr)
  go_ret
  exact ⟨rfl, HR1.out.1, HK.out.trans HR1.out.2⟩
end Go.Proofs.YtabdgnigmlpeaaaGreatDoor
/- A search through a list of stopwatch/api.Offence. -/
namespace Go.Proofs.YtabdgnigmlpeaaaGreatDoor
open Go.RowKit

set_option maxHeartbeats 2000000 in
theorem index_off {α σ : Type} (f : σ → α → Bool × σ) (R : σ → World → Prop) (G : σ → Prop) (g : Nat) (lb : Array Value) (eg : ∀ args w, (callFunc g args).run Tryz.prog w = .ok (.enter g args) w)
    (zs : List α) (V0 V1 V2 V3 : Nat → Value) (p : Option Addr) (b off c : Nat) (hp : zs ≠ [] → p = some ⟨b, off, none⟩) (hl : zs.length ≤ 6000000000000)
    (hread : ∀ s W j, R s W → j < zs.length → W.cell? ⟨b, off + j * 4, none⟩ = some (V0 j) ∧ W.cell? ⟨b, off + j * 4 + 1, none⟩ = some (V1 j) ∧ W.cell? ⟨b, off + j * 4 + 2, none⟩ = some (V2 j) ∧ W.cell? ⟨b, off + j * 4 + 3, none⟩ = some (V3 j))
    (hcont : ∀ s j (h : j < zs.length), G s → (f s zs[j]).1 = false → G (f s zs[j]).2)
    (hcall : ∀ s W j (h : j < zs.length), G s → R s W → Calls Tryz.prog g (#[.agg #[V0 j, V1 j, V2 j, V3 j]] ++ lb) W fun e w' => e = .returned (.bool (f s zs[j]).1) ∧ R (f s zs[j]).2 w')
    (s : σ) (w : World) (hG : G s) (hR : R s w) :
    Calls Tryz.prog 197 #[.slice p zs.length c, .func (.func g) #[] lb] w fun e w' => FoundS (anyS f s zs).1 e ∧ R (anyS f s zs).2 w' := by
  obtain ⟨T, hT⟩ : ∃ T, anyS f s zs = T := ⟨_, rfl⟩
  rw [hT]
  have HI0 : Hid (∃ s', anyS f s' (zs.drop 0) = T ∧ R s' w ∧ G s') := Lib.hid ⟨s, hT, hR, hG⟩
  have HP := Lib.hid hp
  have HD := Lib.hid hread
  have HC := Lib.hid hcall
  have HCo := Lib.hid hcont
  clear hT hR hG hp hread hcall hcont
  go_enter Tryz.func197, Tryz.ntmps197
  go_wp2_with fail
  go_loopw [5, 8] (fun _ v wr => ∃ j : Nat, j ≤ zs.length ∧ v = .int .i64 j ∧ Hid (∃ s', anyS f s' (zs.drop j) = T ∧ R s' wr ∧ G s')) (fun _ v _ => zs.length - (intOf v).toNat)
  case atStart => exact ⟨0, Nat.zero_le _, rfl, HI0⟩
  case round =>
    obtain ⟨j, hj, rfl, HI⟩ := hrel
    clear HI0
    by_cases hlt : j < zs.length
    · have hji : (j : Int) < (zs.length : Int) := by omega
      obtain rfl := HP.out (by rintro rfl; simp at hlt)
      obtain ⟨s', h1, h2, h3⟩ := HI.out
      have HG1 : Hid ((f s' zs[j]).1 = false → G (f s' zs[j]).2) := Lib.hid fun h => HCo.out s' j hlt h3 h
      obtain ⟨y20, y21, y22, y23⟩ := HD.out s' wr j h2 hlt
      have HCC := Lib.hid (HC.out s' wr j hlt h3 h2)
      have HS1 : Hid ((f s' zs[j]).1 = true → T = (true, (f s' zs[j]).2)) := Lib.hid fun h => by rw [← h1, (List.getElem_cons_drop hlt).symm, anyS, if_pos h]
      have HS2 : Hid ((f s' zs[j]).1 = false → anyS f (f s' zs[j]).2 (zs.drop (j + 1)) = T) := Lib.hid fun h => by rw [← h1, (List.getElem_cons_drop hlt).symm, anyS, if_neg (by rw [h]; decide)]
      clear h1 h2 h3 HC HD HI HP HCo
      generalize V0 j = y0 at *
      generalize V1 j = y1 at *
      generalize V2 j = y2 at *
      generalize V3 j = y3 at *
      generalize f s' zs[j] = q at *
      obtain ⟨q1, q2⟩ := q
      simp only at HCC HS1 HS2 HG1
      cases q1 with
      | true =>
        obtain rfl := HS1.out rfl
        clear HS1 HS2
        go_wp2_with (go_at_fn g; (with_reducible refine HCC.out.mono ?_); rintro e w1 ⟨rfl, hr⟩; have HR1 := Lib.hid hr; clear hr)
        go_ret
        exact ⟨⟨j, rfl, by simp⟩, HR1.out⟩
      | false =>
        have HS3 := Lib.hid (HS2.out rfl)
        have HG3 := Lib.hid (HG1.out rfl)
        clear HS1 HS2 HG1
        go_wp2_with (go_at_fn g; (with_reducible refine HCC.out.mono ?_); rintro e w1 ⟨rfl, hr⟩; have HR1 := Lib.hid hr; clear hr)
        go_round
        case rel => exact ⟨j + 1, by omega, by go_num, Lib.hid ⟨q2, HS3.out, HR1.out, HG3.out⟩⟩
        case measure => simp [intOf]; omega
    · have hji : ¬ (j : Int) < (zs.length : Int) := by omega
      have HE : Hid (∃ s', T = (false, s') ∧ R s' wr) := Lib.hid (by
        obtain ⟨s', h1, h2, _⟩ := HI.out
        rw [List.drop_of_length_le (by omega), anyS] at h1
        exact ⟨s', h1.symm, h2⟩)
      clear HC HD HI HP HCo
      go_wp2_with fail
      go_ret
      obtain ⟨s', rfl, h2⟩ := HE.out
      exact ⟨⟨-1, rfl, by simp⟩, h2⟩

theorem contains_off {α σ : Type} (f : σ → α → Bool × σ) (R : σ → World → Prop) (G : σ → Prop) (g : Nat) (lb : Array Value) (eg : ∀ args w, (callFunc g args).run Tryz.prog w = .ok (.enter g args) w)
    (zs : List α) (V0 V1 V2 V3 : Nat → Value) (p : Option Addr) (b off c : Nat) (hp : zs ≠ [] → p = some ⟨b, off, none⟩) (hl : zs.length ≤ 6000000000000)
    (hread : ∀ s W j, R s W → j < zs.length → W.cell? ⟨b, off + j * 4, none⟩ = some (V0 j) ∧ W.cell? ⟨b, off + j * 4 + 1, none⟩ = some (V1 j) ∧ W.cell? ⟨b, off + j * 4 + 2, none⟩ = some (V2 j) ∧ W.cell? ⟨b, off + j * 4 + 3, none⟩ = some (V3 j))
    (hcont : ∀ s j (h : j < zs.length), G s → (f s zs[j]).1 = false → G (f s zs[j]).2)
    (hcall : ∀ s W j (h : j < zs.length), G s → R s W → Calls Tryz.prog g (#[.agg #[V0 j, V1 j, V2 j, V3 j]] ++ lb) W fun e w' => e = .returned (.bool (f s zs[j]).1) ∧ R (f s zs[j]).2 w')
    (s : σ) (w : World) (hG : G s) (hR : R s w) :
    Calls Tryz.prog 147 #[.slice p zs.length c, .func (.func g) #[] lb] w fun e w' => e = .returned (.bool (anyS f s zs).1) ∧ R (anyS f s zs).2 w' := by
  have HI := Lib.hid (index_off f R G g lb eg zs V0 V1 V2 V3 p b off c hp hl hread hcont hcall s w hG hR)
  clear hp hread hcall hcont hR hG
  go_enter Tryz.func147, Tryz.ntmps147
  go_wp2_with (go_at_call 197; refine HI.out.mono ?_; rintro e w1 ⟨⟨r, rfl, h⟩, hr⟩; have HR1 := Lib.hid hr; have H1 := Lib.hid h; clear hr h)
  all_goals
    go_ret
    exact ⟨ret_bool (by first | exact H1.out | (rw [← H1.out]; simp; try omega)), HR1.out⟩

set_option maxHeartbeats 1000000 in
/-- The program's negation of a function that lies in a cell. -/
theorem all1_off {α σ : Type} (f : σ → α → Bool × σ) (R : σ → World → Prop) (G : σ → Prop) (L : Nat) (g : Nat) (lb : Array Value) (eg : ∀ args w, (callFunc g args).run Tryz.prog w = .ok (.enter g args) w)
    (zs : List α) (V0 V1 V2 V3 : Nat → Value)
    (hkeep : ∀ s W W', R s W → Below W.heap.size W W' → R s W')
    (hcall : ∀ s W j (h : j < zs.length), G s → R s W → Calls Tryz.prog g (#[.agg #[V0 j, V1 j, V2 j, V3 j]] ++ lb) W fun e w' => e = .returned (.bool (f s zs[j]).1) ∧ R (f s zs[j]).2 w' ∧ Kp W w' L) :
    ∀ (B : Nat) s W j (h : j < zs.length), G s → R s W → W.cell? ⟨B, 0, none⟩ = some (.func (.func g) #[] lb) → B < W.heap.size → Calls Tryz.prog 148 #[.agg #[V0 j, V1 j, V2 j, V3 j], .pointer (some ⟨B, 0, none⟩)] W fun e w' => e = .returned (.bool (!(f s zs[j]).1)) ∧ R (f s zs[j]).2 w' ∧ Kp W w' L := by
  intro B s W j hj hG hR hc hB
  have hA := (Below.refl W.heap.size W).alloc (Nat.le_refl _) (.cells #[V0 j, V1 j, V2 j, V3 j] 79)
  have HC := Lib.hid (hcall s _ j hj hG (hkeep s W _ hR hA))
  have HK := Lib.hid (Kp.ofBelow (sb := L) hA (Nat.le_refl _))
  have hc2 := (hA.cell (p := ⟨B, 0, none⟩) hB).trans hc
  clear hkeep hcall hc hA
  generalize V0 j = y0 at *
  generalize V1 j = y1 at *
  generalize V2 j = y2 at *
  generalize V3 j = y3 at *
  generalize f s zs[j] = q at *
  go_enter Tryz.func148, Tryz.ntmps148
  go_wp2_with (go_at_fn g; (with_reducible refine HC.out.mono ?_); rintro e w1 ⟨rfl, hr⟩; have HR1 := Lib.hid hr; clear hr)
  go_ret
  exact ⟨rfl, HR1.out.1, HK.out.trans HR1.out.2⟩

set_option maxHeartbeats 1000000 in
/-- all at stopwatch/api.Offence. -/
theorem all_off {α σ : Type} (f : σ → α → Bool × σ) (R : σ → World → Prop) (G : σ → Prop) (fn : Fn) (fs cs : Array Value) (L : Nat)
    (zs : List α) (V0 V1 V2 V3 : Nat → Value) (p : Option Addr) (b off c : Nat) (hp : zs ≠ [] → p = some ⟨b, off, none⟩) (hl : zs.length ≤ 6000000000000)
    (hread : ∀ s W j, R s W → j < zs.length → W.cell? ⟨b, off + j * 4, none⟩ = some (V0 j) ∧ W.cell? ⟨b, off + j * 4 + 1, none⟩ = some (V1 j) ∧ W.cell? ⟨b, off + j * 4 + 2, none⟩ = some (V2 j) ∧ W.cell? ⟨b, off + j * 4 + 3, none⟩ = some (V3 j))
    (hcont : ∀ s j (h : j < zs.length), G s → (f s zs[j]).1 = true → G (f s zs[j]).2)
    (hcall1 : ∀ (B : Nat) s W j (h : j < zs.length), G s → R s W → W.cell? ⟨B, 0, none⟩ = some (.func fn fs cs) → B < W.heap.size → Calls Tryz.prog 148 #[.agg #[V0 j, V1 j, V2 j, V3 j], .pointer (some ⟨B, 0, none⟩)] W fun e w' => e = .returned (.bool (!(f s zs[j]).1)) ∧ R (f s zs[j]).2 w' ∧ Kp W w' L)
    (hkeep : ∀ s W W', R s W → Below W.heap.size W W' → R s W') (s : σ) (w : World) (hL : L ≠ w.heap.size) (hG : G s) (hR : R s w) :
    Calls Tryz.prog 84 #[.slice p zs.length c, .func fn fs cs] w fun e w' => e = .returned (.bool (allS f s zs).1) ∧ R (allS f s zs).2 w' ∧ Kp w w' L := by
  have hA := (Below.refl w.heap.size w).alloc (Nat.le_refl _) (.cells #[.func fn fs cs] 138)
  have hs : w.heap.size < (w.alloc (.cells #[.func fn fs cs] 138)).heap.size := by simp
  have hc0 : (w.alloc (.cells #[.func fn fs cs] 138)).cell? ⟨w.heap.size, 0, none⟩ = some (.func fn fs cs) := by simp [go_sem]
  have HC := Lib.hid (contains_off (notS f) (fun s W => R s W ∧ Kp (w.alloc (.cells #[.func fn fs cs] 138)) W L) G 148 #[.pointer (some ⟨w.heap.size, 0, none⟩)] (enters_of Tryz.func148 (by kernel_rfl) rfl) zs V0 V1 V2 V3 p b off c hp hl
    (fun s W j hW hj => hread s W j hW.1 hj)
    (fun s j hj hs hf => hcont s j hj hs (by simpa [notS] using hf)) (fun s W j hj hs2 hW => (hcall1 w.heap.size s W j hj hs2 hW.1 (kp_cell hW.2 hs hL.symm hc0) (Nat.lt_of_lt_of_le hs hW.2.size)).mono fun e w' h => ⟨h.1, h.2.1, hW.2.trans h.2.2⟩) s _ hG ⟨hkeep s w _ hR hA, Kp.refl _ _⟩)
  have HK := Lib.hid (Kp.ofBelow (sb := L) hA (Nat.le_refl _))
  rw [all_any]
  clear hp hread hcall1 hcont hkeep hR hG hA hs hc0
  generalize anyS (notS f) s zs = q at *
  have hmf : ∀ (fn : Fn) (first cap : Array Value) (w : World), (Instr.makeFunc fn first cap).run Tryz.prog w = .ok (.func fn first cap) w := fun _ _ _ _ => rfl
  go_enter Tryz.func84, Tryz.ntmps84
  go_wp2_with (go_at_call 147; refine HC.out.mono ?_; rintro e w1 ⟨rfl, hr⟩; have HR1 := Lib.hid hr; clear hr)
  go_ret
  exact ⟨rfl, HR1.out.1, HK.out.trans HR1.out.2⟩
end Go.Proofs.YtabdgnigmlpeaaaGreatDoor
/- A search through a list of stopwatch/api.Category. -/
namespace Go.Proofs.YtabdgnigmlpeaaaGreatDoor
open Go.RowKit

set_option maxHeartbeats 2000000 in
theorem index_cat {α σ : Type} (f : σ → α → Bool × σ) (R : σ → World → Prop) (G : σ → Prop) (g : Nat) (lb : Array Value) (eg : ∀ args w, (callFunc g args).run Tryz.prog w = .ok (.enter g args) w)
    (zs : List α) (V0 V1 V2 : Nat → Value) (p : Option Addr) (b off c : Nat) (hp : zs ≠ [] → p = some ⟨b, off, none⟩) (hl : zs.length ≤ 6000000000000)
    (hread : ∀ s W j, R s W → j < zs.length → W.cell? ⟨b, off + j * 3, none⟩ = some (V0 j) ∧ W.cell? ⟨b, off + j * 3 + 1, none⟩ = some (V1 j) ∧ W.cell? ⟨b, off + j * 3 + 2, none⟩ = some (V2 j))
    (hcont : ∀ s j (h : j < zs.length), G s → (f s zs[j]).1 = false → G (f s zs[j]).2)
    (hcall : ∀ s W j (h : j < zs.length), G s → R s W → Calls Tryz.prog g (#[.agg #[V0 j, V1 j, V2 j]] ++ lb) W fun e w' => e = .returned (.bool (f s zs[j]).1) ∧ R (f s zs[j]).2 w')
    (s : σ) (w : World) (hG : G s) (hR : R s w) :
    Calls Tryz.prog 198 #[.slice p zs.length c, .func (.func g) #[] lb] w fun e w' => FoundS (anyS f s zs).1 e ∧ R (anyS f s zs).2 w' := by
  obtain ⟨T, hT⟩ : ∃ T, anyS f s zs = T := ⟨_, rfl⟩
  rw [hT]
  have HI0 : Hid (∃ s', anyS f s' (zs.drop 0) = T ∧ R s' w ∧ G s') := Lib.hid ⟨s, hT, hR, hG⟩
  have HP := Lib.hid hp
  have HD := Lib.hid hread
  have HC := Lib.hid hcall
  have HCo := Lib.hid hcont
  clear hT hR hG hp hread hcall hcont
  go_enter Tryz.func198, Tryz.ntmps198
  go_wp2_with fail
  go_loopw [5, 8] (fun _ v wr => ∃ j : Nat, j ≤ zs.length ∧ v = .int .i64 j ∧ Hid (∃ s', anyS f s' (zs.drop j) = T ∧ R s' wr ∧ G s')) (fun _ v _ => zs.length - (intOf v).toNat)
  case atStart => exact ⟨0, Nat.zero_le _, rfl, HI0⟩
  case round =>
    obtain ⟨j, hj, rfl, HI⟩ := hrel
    clear HI0
    by_cases hlt : j < zs.length
    · have hji : (j : Int) < (zs.length : Int) := by omega
      obtain rfl := HP.out (by rintro rfl; simp at hlt)
      obtain ⟨s', h1, h2, h3⟩ := HI.out
      have HG1 : Hid ((f s' zs[j]).1 = false → G (f s' zs[j]).2) := Lib.hid fun h => HCo.out s' j hlt h3 h
      obtain ⟨y20, y21, y22⟩ := HD.out s' wr j h2 hlt
      have HCC := Lib.hid (HC.out s' wr j hlt h3 h2)
      have HS1 : Hid ((f s' zs[j]).1 = true → T = (true, (f s' zs[j]).2)) := Lib.hid fun h => by rw [← h1, (List.getElem_cons_drop hlt).symm, anyS, if_pos h]
      have HS2 : Hid ((f s' zs[j]).1 = false → anyS f (f s' zs[j]).2 (zs.drop (j + 1)) = T) := Lib.hid fun h => by rw [← h1, (List.getElem_cons_drop hlt).symm, anyS, if_neg (by rw [h]; decide)]
      clear h1 h2 h3 HC HD HI HP HCo
      generalize V0 j = y0 at *
      generalize V1 j = y1 at *
      generalize V2 j = y2 at *
      generalize f s' zs[j] = q at *
      obtain ⟨q1, q2⟩ := q
      simp only at HCC HS1 HS2 HG1
      cases q1 with
      | true =>
        obtain rfl := HS1.out rfl
        clear HS1 HS2
        go_wp2_with (go_at_fn g; (with_reducible refine HCC.out.mono ?_); rintro e w1 ⟨rfl, hr⟩; have HR1 := Lib.hid hr; clear hr)
        go_ret
        exact ⟨⟨j, rfl, by simp⟩, HR1.out⟩
      | false =>
        have HS3 := Lib.hid (HS2.out rfl)
        have HG3 := Lib.hid (HG1.out rfl)
        clear HS1 HS2 HG1
        go_wp2_with (go_at_fn g; (with_reducible refine HCC.out.mono ?_); rintro e w1 ⟨rfl, hr⟩; have HR1 := Lib.hid hr; clear hr)
        go_round
        case rel => exact ⟨j + 1, by omega, by go_num, Lib.hid ⟨q2, HS3.out, HR1.out, HG3.out⟩⟩
        case measure => simp [intOf]; omega
    · have hji : ¬ (j : Int) < (zs.length : Int) := by omega
      have HE : Hid (∃ s', T = (false, s') ∧ R s' wr) := Lib.hid (by
        obtain ⟨s', h1, h2, _⟩ := HI.out
        rw [List.drop_of_length_le (by omega), anyS] at h1
        exact ⟨s', h1.symm, h2⟩)
      clear HC HD HI HP HCo
      go_wp2_with fail
      go_ret
      obtain ⟨s', rfl, h2⟩ := HE.out
      exact ⟨⟨-1, rfl, by simp⟩, h2⟩

theorem contains_cat {α σ : Type} (f : σ → α → Bool × σ) (R : σ → World → Prop) (G : σ → Prop) (g : Nat) (lb : Array Value) (eg : ∀ args w, (callFunc g args).run Tryz.prog w = .ok (.enter g args) w)
    (zs : List α) (V0 V1 V2 : Nat → Value) (p : Option Addr) (b off c : Nat) (hp : zs ≠ [] → p = some ⟨b, off, none⟩) (hl : zs.length ≤ 6000000000000)
    (hread : ∀ s W j, R s W → j < zs.length → W.cell? ⟨b, off + j * 3, none⟩ = some (V0 j) ∧ W.cell? ⟨b, off + j * 3 + 1, none⟩ = some (V1 j) ∧ W.cell? ⟨b, off + j * 3 + 2, none⟩ = some (V2 j))
    (hcont : ∀ s j (h : j < zs.length), G s → (f s zs[j]).1 = false → G (f s zs[j]).2)
    (hcall : ∀ s W j (h : j < zs.length), G s → R s W → Calls Tryz.prog g (#[.agg #[V0 j, V1 j, V2 j]] ++ lb) W fun e w' => e = .returned (.bool (f s zs[j]).1) ∧ R (f s zs[j]).2 w')
    (s : σ) (w : World) (hG : G s) (hR : R s w) :
    Calls Tryz.prog 150 #[.slice p zs.length c, .func (.func g) #[] lb] w fun e w' => e = .returned (.bool (anyS f s zs).1) ∧ R (anyS f s zs).2 w' := by
  have HI := Lib.hid (index_cat f R G g lb eg zs V0 V1 V2 p b off c hp hl hread hcont hcall s w hG hR)
  clear hp hread hcall hcont hR hG
  go_enter Tryz.func150, Tryz.ntmps150
  go_wp2_with (go_at_call 198; refine HI.out.mono ?_; rintro e w1 ⟨⟨r, rfl, h⟩, hr⟩; have HR1 := Lib.hid hr; have H1 := Lib.hid h; clear hr h)
  all_goals
    go_ret
    exact ⟨ret_bool (by first | exact H1.out | (rw [← H1.out]; simp; try omega)), HR1.out⟩

set_option maxHeartbeats 1000000 in
/-- The program's negation of a function that lies in a cell. -/
theorem all1_cat {α σ : Type} (f : σ → α → Bool × σ) (R : σ → World → Prop) (G : σ → Prop) (L : Nat) (g : Nat) (lb : Array Value) (eg : ∀ args w, (callFunc g args).run Tryz.prog w = .ok (.enter g args) w)
    (zs : List α) (V0 V1 V2 : Nat → Value)
    (hkeep : ∀ s W W', R s W → Below W.heap.size W W' → R s W')
    (hcall : ∀ s W j (h : j < zs.length), G s → R s W → Calls Tryz.prog g (#[.agg #[V0 j, V1 j, V2 j]] ++ lb) W fun e w' => e = .returned (.bool (f s zs[j]).1) ∧ R (f s zs[j]).2 w' ∧ Kp W w' L) :
    ∀ (B : Nat) s W j (h : j < zs.length), G s → R s W → W.cell? ⟨B, 0, none⟩ = some (.func (.func g) #[] lb) → B < W.heap.size → Calls Tryz.prog 151 #[.agg #[V0 j, V1 j, V2 j], .pointer (some ⟨B, 0, none⟩)] W fun e w' => e = .returned (.bool (!(f s zs[j]).1)) ∧ R (f s zs[j]).2 w' ∧ Kp W w' L := by
  intro B s W j hj hG hR hc hB
  have hA := (Below.refl W.heap.size W).alloc (Nat.le_refl _) (.cells #[V0 j, V1 j, V2 j] 121)
  have HC := Lib.hid (hcall s _ j hj hG (hkeep s W _ hR hA))
  have HK := Lib.hid (Kp.ofBelow (sb := L) hA (Nat.le_refl _))
  have hc2 := (hA.cell (p := ⟨B, 0, none⟩) hB).trans hc
  clear hkeep hcall hc hA
  generalize V0 j = y0 at *
  generalize V1 j = y1 at *
  generalize V2 j = y2 at *
  generalize f s zs[j] = q at *
  go_enter Tryz.func151, Tryz.ntmps151
  go_wp2_with (go_at_fn g; (with_reducible refine HC.out.mono ?_); rintro e w1 ⟨rfl, hr⟩; have HR1 := Lib.hid hr; clear hr)
  go_ret
  exact ⟨rfl, HR1.out.1, HK.out.trans HR1.out.2⟩

set_option maxHeartbeats 1000000 in
/-- all at stopwatch/api.Category. -/
theorem all_cat {α σ : Type} (f : σ → α → Bool × σ) (R : σ → World → Prop) (G : σ → Prop) (fn : Fn) (fs cs : Array Value) (L : Nat)
    (zs : List α) (V0 V1 V2 : Nat → Value) (p : Option Addr) (b off c : Nat) (hp : zs ≠ [] → p = some ⟨b, off, none⟩) (hl : zs.length ≤ 6000000000000)
    (hread : ∀ s W j, R s W → j < zs.length → W.cell? ⟨b, off + j * 3, none⟩ = some (V0 j) ∧ W.cell? ⟨b, off + j * 3 + 1, none⟩ = some (V1 j) ∧ W.cell? ⟨b, off + j * 3 + 2, none⟩ = some (V2 j))
    (hcont : ∀ s j (h : j < zs.length), G s → (f s zs[j]).1 = true → G (f s zs[j]).2)
    (hcall1 : ∀ (B : Nat) s W j (h : j < zs.length), G s → R s W → W.cell? ⟨B, 0, none⟩ = some (.func fn fs cs) → B < W.heap.size → Calls Tryz.prog 151 #[.agg #[V0 j, V1 j, V2 j], .pointer (some ⟨B, 0, none⟩)] W fun e w' => e = .returned (.bool (!(f s zs[j]).1)) ∧ R (f s zs[j]).2 w' ∧ Kp W w' L)
    (hkeep : ∀ s W W', R s W → Below W.heap.size W W' → R s W') (s : σ) (w : World) (hL : L ≠ w.heap.size) (hG : G s) (hR : R s w) :
    Calls Tryz.prog 86 #[.slice p zs.length c, .func fn fs cs] w fun e w' => e = .returned (.bool (allS f s zs).1) ∧ R (allS f s zs).2 w' ∧ Kp w w' L := by
  have hA := (Below.refl w.heap.size w).alloc (Nat.le_refl _) (.cells #[.func fn fs cs] 140)
  have hs : w.heap.size < (w.alloc (.cells #[.func fn fs cs] 140)).heap.size := by simp
  have hc0 : (w.alloc (.cells #[.func fn fs cs] 140)).cell? ⟨w.heap.size, 0, none⟩ = some (.func fn fs cs) := by simp [go_sem]
  have HC := Lib.hid (contains_cat (notS f) (fun s W => R s W ∧ Kp (w.alloc (.cells #[.func fn fs cs] 140)) W L) G 151 #[.pointer (some ⟨w.heap.size, 0, none⟩)] (enters_of Tryz.func151 (by kernel_rfl) rfl) zs V0 V1 V2 p b off c hp hl
    (fun s W j hW hj => hread s W j hW.1 hj)
    (fun s j hj hs hf => hcont s j hj hs (by simpa [notS] using hf)) (fun s W j hj hs2 hW => (hcall1 w.heap.size s W j hj hs2 hW.1 (kp_cell hW.2 hs hL.symm hc0) (Nat.lt_of_lt_of_le hs hW.2.size)).mono fun e w' h => ⟨h.1, h.2.1, hW.2.trans h.2.2⟩) s _ hG ⟨hkeep s w _ hR hA, Kp.refl _ _⟩)
  have HK := Lib.hid (Kp.ofBelow (sb := L) hA (Nat.le_refl _))
  rw [all_any]
  clear hp hread hcall1 hcont hkeep hR hG hA hs hc0
  generalize anyS (notS f) s zs = q at *
  have hmf : ∀ (fn : Fn) (first cap : Array Value) (w : World), (Instr.makeFunc fn first cap).run Tryz.prog w = .ok (.func fn first cap) w := fun _ _ _ _ => rfl
  go_enter Tryz.func86, Tryz.ntmps86
  go_wp2_with (go_at_call 150; refine HC.out.mono ?_; rintro e w1 ⟨rfl, hr⟩; have HR1 := Lib.hid hr; clear hr)
  go_ret
  exact ⟨rfl, HR1.out.1, HK.out.trans HR1.out.2⟩
end Go.Proofs.YtabdgnigmlpeaaaGreatDoor
/- A search through a list of stopwatch/api.Prize. -/
namespace Go.Proofs.YtabdgnigmlpeaaaGreatDoor
open Go.RowKit

set_option maxHeartbeats 2000000 in
theorem index_prize {α σ : Type} (f : σ → α → Bool × σ) (R : σ → World → Prop) (G : σ → Prop) (g : Nat) (lb : Array Value) (eg : ∀ args w, (callFunc g args).run Tryz.prog w = .ok (.enter g args) w)
    (zs : List α) (V0 V1 V2 V3 : Nat → Value) (p : Option Addr) (b off c : Nat) (hp : zs ≠ [] → p = some ⟨b, off, none⟩) (hl : zs.length ≤ 6000000000000)
    (hread : ∀ s W j, R s W → j < zs.length → W.cell? ⟨b, off + j * 4, none⟩ = some (V0 j) ∧ W.cell? ⟨b, off + j * 4 + 1, none⟩ = some (V1 j) ∧ W.cell? ⟨b, off + j * 4 + 2, none⟩ = some (V2 j) ∧ W.cell? ⟨b, off + j * 4 + 3, none⟩ = some (V3 j))
    (hcont : ∀ s j (h : j < zs.length), G s → (f s zs[j]).1 = false → G (f s zs[j]).2)
    (hcall : ∀ s W j (h : j < zs.length), G s → R s W → Calls Tryz.prog g (#[.agg #[V0 j, V1 j, V2 j, V3 j]] ++ lb) W fun e w' => e = .returned (.bool (f s zs[j]).1) ∧ R (f s zs[j]).2 w')
    (s : σ) (w : World) (hG : G s) (hR : R s w) :
    Calls Tryz.prog 199 #[.slice p zs.length c, .func (.func g) #[] lb] w fun e w' => FoundS (anyS f s zs).1 e ∧ R (anyS f s zs).2 w' := by
  obtain ⟨T, hT⟩ : ∃ T, anyS f s zs = T := ⟨_, rfl⟩
  rw [hT]
  have HI0 : Hid (∃ s', anyS f s' (zs.drop 0) = T ∧ R s' w ∧ G s') := Lib.hid ⟨s, hT, hR, hG⟩
  have HP := Lib.hid hp
  have HD := Lib.hid hread
  have HC := Lib.hid hcall
  have HCo := Lib.hid hcont
  clear hT hR hG hp hread hcall hcont
  go_enter Tryz.func199, Tryz.ntmps199
  go_wp2_with fail
  go_loopw [5, 8] (fun _ v wr => ∃ j : Nat, j ≤ zs.length ∧ v = .int .i64 j ∧ Hid (∃ s', anyS f s' (zs.drop j) = T ∧ R s' wr ∧ G s')) (fun _ v _ => zs.length - (intOf v).toNat)
  case atStart => exact ⟨0, Nat.zero_le _, rfl, HI0⟩
  case round =>
    obtain ⟨j, hj, rfl, HI⟩ := hrel
    clear HI0
    by_cases hlt : j < zs.length
    · have hji : (j : Int) < (zs.length : Int) := by omega
      obtain rfl := HP.out (by rintro rfl; simp at hlt)
      obtain ⟨s', h1, h2, h3⟩ := HI.out
      have HG1 : Hid ((f s' zs[j]).1 = false → G (f s' zs[j]).2) := Lib.hid fun h => HCo.out s' j hlt h3 h
      obtain ⟨y20, y21, y22, y23⟩ := HD.out s' wr j h2 hlt
      have HCC := Lib.hid (HC.out s' wr j hlt h3 h2)
      have HS1 : Hid ((f s' zs[j]).1 = true → T = (true, (f s' zs[j]).2)) := Lib.hid fun h => by rw [← h1, (List.getElem_cons_drop hlt).symm, anyS, if_pos h]
      have HS2 : Hid ((f s' zs[j]).1 = false → anyS f (f s' zs[j]).2 (zs.drop (j + 1)) = T) := Lib.hid fun h => by rw [← h1, (List.getElem_cons_drop hlt).symm, anyS, if_neg (by rw [h]; decide)]
      clear h1 h2 h3 HC HD HI HP HCo
      generalize V0 j = y0 at *
      generalize V1 j = y1 at *
      generalize V2 j = y2 at *
      generalize V3 j = y3 at *
      generalize f s' zs[j] = q at *
      obtain ⟨q1, q2⟩ := q
      simp only at HCC HS1 HS2 HG1
      cases q1 with
      | true =>
        obtain rfl := HS1.out rfl
        clear HS1 HS2
        go_wp2_with (go_at_fn g; (with_reducible refine HCC.out.mono ?_); rintro e w1 ⟨rfl, hr⟩; have HR1 := Lib.hid hr; clear hr)
        go_ret
        exact ⟨⟨j, rfl, by simp⟩, HR1.out⟩
      | false =>
        have HS3 := Lib.hid (HS2.out rfl)
        have HG3 := Lib.hid (HG1.out rfl)
        clear HS1 HS2 HG1
        go_wp2_with (go_at_fn g; (with_reducible refine HCC.out.mono ?_); rintro e w1 ⟨rfl, hr⟩; have HR1 := Lib.hid hr; clear hr)
        go_round
        case rel => exact ⟨j + 1, by omega, by go_num, Lib.hid ⟨q2, HS3.out, HR1.out, HG3.out⟩⟩
        case measure => simp [intOf]; omega
    · have hji : ¬ (j : Int) < (zs.length : Int) := by omega
      have HE : Hid (∃ s', T = (false, s') ∧ R s' wr) := Lib.hid (by
        obtain ⟨s', h1, h2, _⟩ := HI.out
        rw [List.drop_of_length_le (by omega), anyS] at h1
        exact ⟨s', h1.symm, h2⟩)
      clear HC HD HI HP HCo
      go_wp2_with fail
      go_ret
      obtain ⟨s', rfl, h2⟩ := HE.out
      exact ⟨⟨-1, rfl, by simp⟩, h2⟩

theorem contains_prize {α σ : Type} (f : σ → α → Bool × σ) (R : σ → World → Prop) (G : σ → Prop) (g : Nat) (lb : Array Value) (eg : ∀ args w, (callFunc g args).run Tryz.prog w = .ok (.enter g args) w)
    (zs : List α) (V0 V1 V2 V3 : Nat → Value) (p : Option Addr) (b off c : Nat) (hp : zs ≠ [] → p = some ⟨b, off, none⟩) (hl : zs.length ≤ 6000000000000)
    (hread : ∀ s W j, R s W → j < zs.length → W.cell? ⟨b, off + j * 4, none⟩ = some (V0 j) ∧ W.cell? ⟨b, off + j * 4 + 1, none⟩ = some (V1 j) ∧ W.cell? ⟨b, off + j * 4 + 2, none⟩ = some (V2 j) ∧ W.cell? ⟨b, off + j * 4 + 3, none⟩ = some (V3 j))
    (hcont : ∀ s j (h : j < zs.length), G s → (f s zs[j]).1 = false → G (f s zs[j]).2)
    (hcall : ∀ s W j (h : j < zs.length), G s → R s W → Calls Tryz.prog g (#[.agg #[V0 j, V1 j, V2 j, V3 j]] ++ lb) W fun e w' => e = .returned (.bool (f s zs[j]).1) ∧ R (f s zs[j]).2 w')
    (s : σ) (w : World) (hG : G s) (hR : R s w) :
    Calls Tryz.prog 152 #[.slice p zs.length c, .func (.func g) #[] lb] w fun e w' => e = .returned (.bool (anyS f s zs).1) ∧ R (anyS f s zs).2 w' := by
  have HI := Lib.hid (index_prize f R G g lb eg zs V0 V1 V2 V3 p b off c hp hl hread hcont hcall s w hG hR)
  clear hp hread hcall hcont hR hG
  go_enter Tryz.func152, Tryz.ntmps152
  go_wp2_with (go_at_call 199; refine HI.out.mono ?_; rintro e w1 ⟨⟨r, rfl, h⟩, hr⟩; have HR1 := Lib.hid hr; have H1 := Lib.hid h; clear hr h)
  all_goals
    go_ret
    exact ⟨ret_bool (by first | exact H1.out | (rw [← H1.out]; simp; try omega)), HR1.out⟩

set_option maxHeartbeats 1000000 in
/-- The program's negation of a function that lies in a cell. -/
theorem all1_prize {α σ : Type} (f : σ → α → Bool × σ) (R : σ → World → Prop) (G : σ → Prop) (L : Nat) (g : Nat) (lb : Array Value) (eg : ∀ args w, (callFunc g args).run Tryz.prog w = .ok (.enter g args) w)
    (zs : List α) (V0 V1 V2 V3 : Nat → Value)
    (hkeep : ∀ s W W', R s W → Below W.heap.size W W' → R s W')
    (hcall : ∀ s W j (h : j < zs.length), G s → R s W → Calls Tryz.prog g (#[.agg #[V0 j, V1 j, V2 j, V3 j]] ++ lb) W fun e w' => e = .returned (.bool (f s zs[j]).1) ∧ R (f s zs[j]).2 w' ∧ Kp W w' L) :
    ∀ (B : Nat) s W j (h : j < zs.length), G s → R s W → W.cell? ⟨B, 0, none⟩ = some (.func (.func g) #[] lb) → B < W.heap.size → Calls Tryz.prog 153 #[.agg #[V0 j, V1 j, V2 j, V3 j], .pointer (some ⟨B, 0, none⟩)] W fun e w' => e = .returned (.bool (!(f s zs[j]).1)) ∧ R (f s zs[j]).2 w' ∧ Kp W w' L := by
  intro B s W j hj hG hR hc hB
  have hA := (Below.refl W.heap.size W).alloc (Nat.le_refl _) (.cells #[V0 j, V1 j, V2 j, V3 j] 77)
  have HC := Lib.hid (hcall s _ j hj hG (hkeep s W _ hR hA))
  have HK := Lib.hid (Kp.ofBelow (sb := L) hA (Nat.le_refl _))
  have hc2 := (hA.cell (p := ⟨B, 0, none⟩) hB).trans hc
  clear hkeep hcall hc hA
  generalize V0 j = y0 at *
  generalize V1 j = y1 at *
  generalize V2 j = y2 at *
  generalize V3 j = y3 at *
  generalize f s zs[j] = q at *
  go_enter Tryz.func153, Tryz.ntmps153
  go_wp2_with (go_at_fn g; (with_reducible refine HC.out.mono ?_); rintro e w1 ⟨rfl, hr⟩; have HR1 := Lib.hid hr; clear hr)
  go_ret
  exact ⟨rfl, HR1.out.1, HK.out.trans HR1.out.2⟩

set_option maxHeartbeats 1000000 in
/-- all at stopwatch/api.Prize. -/
theorem all_prize {α σ : Type} (f : σ → α → Bool × σ) (R : σ → World → Prop) (G : σ → Prop) (fn : Fn) (fs cs : Array Value) (L : Nat)
    (zs : List α) (V0 V1 V2 V3 : Nat → Value) (p : Option Addr) (b off c : Nat) (hp : zs ≠ [] → p = some ⟨b, off, none⟩) (hl : zs.length ≤ 6000000000000)
    (hread : ∀ s W j, R s W → j < zs.length → W.cell? ⟨b, off + j * 4, none⟩ = some (V0 j) ∧ W.cell? ⟨b, off + j * 4 + 1, none⟩ = some (V1 j) ∧ W.cell? ⟨b, off + j * 4 + 2, none⟩ = some (V2 j) ∧ W.cell? ⟨b, off + j * 4 + 3, none⟩ = some (V3 j))
    (hcont : ∀ s j (h : j < zs.length), G s → (f s zs[j]).1 = true → G (f s zs[j]).2)
    (hcall1 : ∀ (B : Nat) s W j (h : j < zs.length), G s → R s W → W.cell? ⟨B, 0, none⟩ = some (.func fn fs cs) → B < W.heap.size → Calls Tryz.prog 153 #[.agg #[V0 j, V1 j, V2 j, V3 j], .pointer (some ⟨B, 0, none⟩)] W fun e w' => e = .returned (.bool (!(f s zs[j]).1)) ∧ R (f s zs[j]).2 w' ∧ Kp W w' L)
    (hkeep : ∀ s W W', R s W → Below W.heap.size W W' → R s W') (s : σ) (w : World) (hL : L ≠ w.heap.size) (hG : G s) (hR : R s w) :
    Calls Tryz.prog 88 #[.slice p zs.length c, .func fn fs cs] w fun e w' => e = .returned (.bool (allS f s zs).1) ∧ R (allS f s zs).2 w' ∧ Kp w w' L := by
  have hA := (Below.refl w.heap.size w).alloc (Nat.le_refl _) (.cells #[.func fn fs cs] 126)
  have hs : w.heap.size < (w.alloc (.cells #[.func fn fs cs] 126)).heap.size := by simp
  have hc0 : (w.alloc (.cells #[.func fn fs cs] 126)).cell? ⟨w.heap.size, 0, none⟩ = some (.func fn fs cs) := by simp [go_sem]
  have HC := Lib.hid (contains_prize (notS f) (fun s W => R s W ∧ Kp (w.alloc (.cells #[.func fn fs cs] 126)) W L) G 153 #[.pointer (some ⟨w.heap.size, 0, none⟩)] (enters_of Tryz.func153 (by kernel_rfl) rfl) zs V0 V1 V2 V3 p b off c hp hl
    (fun s W j hW hj => hread s W j hW.1 hj)
    (fun s j hj hs hf => hcont s j hj hs (by simpa [notS] using hf)) (fun s W j hj hs2 hW => (hcall1 w.heap.size s W j hj hs2 hW.1 (kp_cell hW.2 hs hL.symm hc0) (Nat.lt_of_lt_of_le hs hW.2.size)).mono fun e w' h => ⟨h.1, h.2.1, hW.2.trans h.2.2⟩) s _ hG ⟨hkeep s w _ hR hA, Kp.refl _ _⟩)
  have HK := Lib.hid (Kp.ofBelow (sb := L) hA (Nat.le_refl _))
  rw [all_any]
  clear hp hread hcall1 hcont hkeep hR hG hA hs hc0
  generalize anyS (notS f) s zs = q at *
  have hmf : ∀ (fn : Fn) (first cap : Array Value) (w : World), (Instr.makeFunc fn first cap).run Tryz.prog w = .ok (.func fn first cap) w := fun _ _ _ _ => rfl
  go_enter Tryz.func88, Tryz.ntmps88
  go_wp2_with (go_at_call 152; refine HC.out.mono ?_; rintro e w1 ⟨rfl, hr⟩; have HR1 := Lib.hid hr; clear hr)
  go_ret
  exact ⟨rfl, HR1.out.1, HK.out.trans HR1.out.2⟩
end Go.Proofs.YtabdgnigmlpeaaaGreatDoor
/- A search through a list of stopwatch/api.Cutoff. -/
namespace Go.Proofs.YtabdgnigmlpeaaaGreatDoor
open Go.RowKit

set_option maxHeartbeats 2000000 in
theorem index_cut {α σ : Type} (f : σ → α → Bool × σ) (R : σ → World → Prop) (G : σ → Prop) (g : Nat) (lb : Array Value) (eg : ∀ args w, (callFunc g args).run Tryz.prog w = .ok (.enter g args) w)
    (zs : List α) (V0 V1 V2 : Nat → Value) (p : Option Addr) (b off c : Nat) (hp : zs ≠ [] → p = some ⟨b, off, none⟩) (hl : zs.length ≤ 6000000000000)
    (hread : ∀ s W j, R s W → j < zs.length → W.cell? ⟨b, off + j * 3, none⟩ = some (V0 j) ∧ W.cell? ⟨b, off + j * 3 + 1, none⟩ = some (V1 j) ∧ W.cell? ⟨b, off + j * 3 + 2, none⟩ = some (V2 j))
    (hcont : ∀ s j (h : j < zs.length), G s → (f s zs[j]).1 = false → G (f s zs[j]).2)
    (hcall : ∀ s W j (h : j < zs.length), G s → R s W → Calls Tryz.prog g (#[.agg #[V0 j, V1 j, V2 j]] ++ lb) W fun e w' => e = .returned (.bool (f s zs[j]).1) ∧ R (f s zs[j]).2 w')
    (s : σ) (w : World) (hG : G s) (hR : R s w) :
    Calls Tryz.prog 216 #[.slice p zs.length c, .func (.func g) #[] lb] w fun e w' => FoundS (anyS f s zs).1 e ∧ R (anyS f s zs).2 w' := by
  obtain ⟨T, hT⟩ : ∃ T, anyS f s zs = T := ⟨_, rfl⟩
  rw [hT]
  have HI0 : Hid (∃ s', anyS f s' (zs.drop 0) = T ∧ R s' w ∧ G s') := Lib.hid ⟨s, hT, hR, hG⟩
  have HP := Lib.hid hp
  have HD := Lib.hid hread
  have HC := Lib.hid hcall
  have HCo := Lib.hid hcont
  clear hT hR hG hp hread hcall hcont
  go_enter Tryz.func216, Tryz.ntmps216
  go_wp2_with fail
  go_loopw [5, 8] (fun _ v wr => ∃ j : Nat, j ≤ zs.length ∧ v = .int .i64 j ∧ Hid (∃ s', anyS f s' (zs.drop j) = T ∧ R s' wr ∧ G s')) (fun _ v _ => zs.length - (intOf v).toNat)
  case atStart => exact ⟨0, Nat.zero_le _, rfl, HI0⟩
  case round =>
    obtain ⟨j, hj, rfl, HI⟩ := hrel
    clear HI0
    by_cases hlt : j < zs.length
    · have hji : (j : Int) < (zs.length : Int) := by omega
      obtain rfl := HP.out (by rintro rfl; simp at hlt)
      obtain ⟨s', h1, h2, h3⟩ := HI.out
      have HG1 : Hid ((f s' zs[j]).1 = false → G (f s' zs[j]).2) := Lib.hid fun h => HCo.out s' j hlt h3 h
      obtain ⟨y20, y21, y22⟩ := HD.out s' wr j h2 hlt
      have HCC := Lib.hid (HC.out s' wr j hlt h3 h2)
      have HS1 : Hid ((f s' zs[j]).1 = true → T = (true, (f s' zs[j]).2)) := Lib.hid fun h => by rw [← h1, (List.getElem_cons_drop hlt).symm, anyS, if_pos h]
      have HS2 : Hid ((f s' zs[j]).1 = false → anyS f (f s' zs[j]).2 (zs.drop (j + 1)) = T) := Lib.hid fun h => by rw [← h1, (List.getElem_cons_drop hlt).symm, anyS, if_neg (by rw [h]; decide)]
      clear h1 h2 h3 HC HD HI HP HCo
      generalize V0 j = y0 at *
      generalize V1 j = y1 at *
      generalize V2 j = y2 at *
      generalize f s' zs[j] = q at *
      obtain ⟨q1, q2⟩ := q
      simp only at HCC HS1 HS2 HG1
      cases q1 with
      | true =>
        obtain rfl := HS1.out rfl
        clear HS1 HS2
        go_wp2_with (go_at_fn g; (with_reducible refine HCC.out.mono ?_); rintro e w1 ⟨rfl, hr⟩; have HR1 := Lib.hid hr; clear hr)
        go_ret
        exact ⟨⟨j, rfl, by simp⟩, HR1.out⟩
      | false =>
        have HS3 := Lib.hid (HS2.out rfl)
        have HG3 := Lib.hid (HG1.out rfl)
        clear HS1 HS2 HG1
        go_wp2_with (go_at_fn g; (with_reducible refine HCC.out.mono ?_); rintro e w1 ⟨rfl, hr⟩; have HR1 := Lib.hid hr; clear hr)
        go_round
        case rel => exact ⟨j + 1, by omega, by go_num, Lib.hid ⟨q2, HS3.out, HR1.out, HG3.out⟩⟩
        case measure => simp [intOf]; omega
    · have hji : ¬ (j : Int) < (zs.length : Int) := by omega
      have HE : Hid (∃ s', T = (false, s') ∧ R s' wr) := Lib.hid (by
        obtain ⟨s', h1, h2, _⟩ := HI.out
        rw [List.drop_of_length_le (by omega), anyS] at h1
        exact ⟨s', h1.symm, h2⟩)
      clear HC HD HI HP HCo
      go_wp2_with fail
      go_ret
      obtain ⟨s', rfl, h2⟩ := HE.out
      exact ⟨⟨-1, rfl, by simp⟩, h2⟩

theorem contains_cut {α σ : Type} (f : σ → α → Bool × σ) (R : σ → World → Prop) (G : σ → Prop) (g : Nat) (lb : Array Value) (eg : ∀ args w, (callFunc g args).run Tryz.prog w = .ok (.enter g args) w)
    (zs : List α) (V0 V1 V2 : Nat → Value) (p : Option Addr) (b off c : Nat) (hp : zs ≠ [] → p = some ⟨b, off, none⟩) (hl : zs.length ≤ 6000000000000)
    (hread : ∀ s W j, R s W → j < zs.length → W.cell? ⟨b, off + j * 3, none⟩ = some (V0 j) ∧ W.cell? ⟨b, off + j * 3 + 1, none⟩ = some (V1 j) ∧ W.cell? ⟨b, off + j * 3 + 2, none⟩ = some (V2 j))
    (hcont : ∀ s j (h : j < zs.length), G s → (f s zs[j]).1 = false → G (f s zs[j]).2)
    (hcall : ∀ s W j (h : j < zs.length), G s → R s W → Calls Tryz.prog g (#[.agg #[V0 j, V1 j, V2 j]] ++ lb) W fun e w' => e = .returned (.bool (f s zs[j]).1) ∧ R (f s zs[j]).2 w')
    (s : σ) (w : World) (hG : G s) (hR : R s w) :
    Calls Tryz.prog 194 #[.slice p zs.length c, .func (.func g) #[] lb] w fun e w' => e = .returned (.bool (anyS f s zs).1) ∧ R (anyS f s zs).2 w' := by
  have HI := Lib.hid (index_cut f R G g lb eg zs V0 V1 V2 p b off c hp hl hread hcont hcall s w hG hR)
  clear hp hread hcall hcont hR hG
  go_enter Tryz.func194, Tryz.ntmps194
  go_wp2_with (go_at_call 216; refine HI.out.mono ?_; rintro e w1 ⟨⟨r, rfl, h⟩, hr⟩; have HR1 := Lib.hid hr; have H1 := Lib.hid h; clear hr h)
  all_goals
    go_ret
    exact ⟨ret_bool (by first | exact H1.out | (rw [← H1.out]; simp; try omega)), HR1.out⟩

set_option maxHeartbeats 1000000 in
/-- The program's negation of a function that lies in a cell. -/
theorem all1_cut {α σ : Type} (f : σ → α → Bool × σ) (R : σ → World → Prop) (G : σ → Prop) (L : Nat) (g : Nat) (lb : Array Value) (eg : ∀ args w, (callFunc g args).run Tryz.prog w = .ok (.enter g args) w)
    (zs : List α) (V0 V1 V2 : Nat → Value)
    (hkeep : ∀ s W W', R s W → Below W.heap.size W W' → R s W')
    (hcall : ∀ s W j (h : j < zs.length), G s → R s W → Calls Tryz.prog g (#[.agg #[V0 j, V1 j, V2 j]] ++ lb) W fun e w' => e = .returned (.bool (f s zs[j]).1) ∧ R (f s zs[j]).2 w' ∧ Kp W w' L) :
    ∀ (B : Nat) s W j (h : j < zs.length), G s → R s W → W.cell? ⟨B, 0, none⟩ = some (.func (.func g) #[] lb) → B < W.heap.size → Calls Tryz.prog 195 #[.agg #[V0 j, V1 j, V2 j], .pointer (some ⟨B, 0, none⟩)] W fun e w' => e = .returned (.bool (!(f s zs[j]).1)) ∧ R (f s zs[j]).2 w' ∧ Kp W w' L := by
  intro B s W j hj hG hR hc hB
  have hA := (Below.refl W.heap.size W).alloc (Nat.le_refl _) (.cells #[V0 j, V1 j, V2 j] 74)
  have HC := Lib.hid (hcall s _ j hj hG (hkeep s W _ hR hA))
  have HK := Lib.hid (Kp.ofBelow (sb := L) hA (Nat.le_refl _))
  have hc2 := (hA.cell (p := ⟨B, 0, none⟩) hB).trans hc
  clear hkeep hcall hc hA
  generalize V0 j = y0 at *
  generalize V1 j = y1 at *
  generalize V2 j = y2 at *
  generalize f s zs[j] = q at *
  go_enter Tryz.func195, Tryz.ntmps195
  go_wp2_with (go_at_fn g; (with_reducible refine HC.out.mono ?_); rintro e w1 ⟨rfl, hr⟩; have HR1 := Lib.hid hr; clear hr)
  go_ret
  exact ⟨rfl, HR1.out.1, HK.out.trans HR1.out.2⟩

set_option maxHeartbeats 1000000 in
/-- all at stopwatch/api.Cutoff. -/
theorem all_cut {α σ : Type} (f : σ → α → Bool × σ) (R : σ → World → Prop) (G : σ → Prop) (fn : Fn) (fs cs : Array Value) (L : Nat)
    (zs : List α) (V0 V1 V2 : Nat → Value) (p : Option Addr) (b off c : Nat) (hp : zs ≠ [] → p = some ⟨b, off, none⟩) (hl : zs.length ≤ 6000000000000)
    (hread : ∀ s W j, R s W → j < zs.length → W.cell? ⟨b, off + j * 3, none⟩ = some (V0 j) ∧ W.cell? ⟨b, off + j * 3 + 1, none⟩ = some (V1 j) ∧ W.cell? ⟨b, off + j * 3 + 2, none⟩ = some (V2 j))
    (hcont : ∀ s j (h : j < zs.length), G s → (f s zs[j]).1 = true → G (f s zs[j]).2)
    (hcall1 : ∀ (B : Nat) s W j (h : j < zs.length), G s → R s W → W.cell? ⟨B, 0, none⟩ = some (.func fn fs cs) → B < W.heap.size → Calls Tryz.prog 195 #[.agg #[V0 j, V1 j, V2 j], .pointer (some ⟨B, 0, none⟩)] W fun e w' => e = .returned (.bool (!(f s zs[j]).1)) ∧ R (f s zs[j]).2 w' ∧ Kp W w' L)
    (hkeep : ∀ s W W', R s W → Below W.heap.size W W' → R s W') (s : σ) (w : World) (hL : L ≠ w.heap.size) (hG : G s) (hR : R s w) :
    Calls Tryz.prog 144 #[.slice p zs.length c, .func fn fs cs] w fun e w' => e = .returned (.bool (allS f s zs).1) ∧ R (allS f s zs).2 w' ∧ Kp w w' L := by
  have hA := (Below.refl w.heap.size w).alloc (Nat.le_refl _) (.cells #[.func fn fs cs] 196)
  have hs : w.heap.size < (w.alloc (.cells #[.func fn fs cs] 196)).heap.size := by simp
  have hc0 : (w.alloc (.cells #[.func fn fs cs] 196)).cell? ⟨w.heap.size, 0, none⟩ = some (.func fn fs cs) := by simp [go_sem]
  have HC := Lib.hid (contains_cut (notS f) (fun s W => R s W ∧ Kp (w.alloc (.cells #[.func fn fs cs] 196)) W L) G 195 #[.pointer (some ⟨w.heap.size, 0, none⟩)] (enters_of Tryz.func195 (by kernel_rfl) rfl) zs V0 V1 V2 p b off c hp hl
    (fun s W j hW hj => hread s W j hW.1 hj)
    (fun s j hj hs hf => hcont s j hj hs (by simpa [notS] using hf)) (fun s W j hj hs2 hW => (hcall1 w.heap.size s W j hj hs2 hW.1 (kp_cell hW.2 hs hL.symm hc0) (Nat.lt_of_lt_of_le hs hW.2.size)).mono fun e w' h => ⟨h.1, h.2.1, hW.2.trans h.2.2⟩) s _ hG ⟨hkeep s w _ hR hA, Kp.refl _ _⟩)
  have HK := Lib.hid (Kp.ofBelow (sb := L) hA (Nat.le_refl _))
  rw [all_any]
  clear hp hread hcall1 hcont hkeep hR hG hA hs hc0
  generalize anyS (notS f) s zs = q at *
  have hmf : ∀ (fn : Fn) (first cap : Array Value) (w : World), (Instr.makeFunc fn first cap).run Tryz.prog w = .ok (.func fn first cap) w := fun _ _ _ _ => rfl
  go_enter Tryz.func144, Tryz.ntmps144
  go_wp2_with (go_at_call 194; refine HC.out.mono ?_; rintro e w1 ⟨rfl, hr⟩; have HR1 := Lib.hid hr; clear hr)
  go_ret
  exact ⟨rfl, HR1.out.1, HK.out.trans HR1.out.2⟩
end Go.Proofs.YtabdgnigmlpeaaaGreatDoor
/- All elements of a list, by a function without state. -/
namespace Go.Proofs.YtabdgnigmlpeaaaGreatDoor
open Go.RowKit

theorem allB_dist {α : Type} (g : α → Bool) (gf : Nat) (lb : Array Value) (eg : ∀ args w, (callFunc gf args).run Tryz.prog w = .ok (.enter gf args) w)
    (zs : List α) (V0 V1 V2 V3 V4 : Nat → Value) (p : Option Addr) (b off c : Nat) (hp : zs ≠ [] → p = some ⟨b, off, none⟩) (hl : zs.length ≤ 6000000000000) (w : World) (hb : zs ≠ [] → b < w.heap.size) (hc : ∀ j, j < zs.length → w.cell? ⟨b, off + j * 5, none⟩ = some (V0 j) ∧ w.cell? ⟨b, off + j * 5 + 1, none⟩ = some (V1 j) ∧ w.cell? ⟨b, off + j * 5 + 2, none⟩ = some (V2 j) ∧ w.cell? ⟨b, off + j * 5 + 3, none⟩ = some (V3 j) ∧ w.cell? ⟨b, off + j * 5 + 4, none⟩ = some (V4 j))
    (hcall : ∀ W j (h : j < zs.length), Below w.heap.size w W → Calls Tryz.prog gf (#[.agg #[V0 j, V1 j, V2 j, V3 j, V4 j]] ++ lb) W fun e w' => e = .returned (.bool (g zs[j])) ∧ Below W.heap.size W w') :
    Calls Tryz.prog 56 #[.slice p zs.length c, .func (Fn.func gf) #[] lb] w fun e w' => e = .returned (.bool (zs.all g)) ∧ Below w.heap.size w w' := by
  have hk : ∀ (s : Unit) W W', (fun (_ : Unit) W => Below w.heap.size w W) s W → Below W.heap.size W W' → (fun (_ : Unit) W => Below w.heap.size w W) s W' := fun _ _ _ h1 h2 => h1.trans (h2.mono h1.size)
  refine (all_dist (fun (s : Unit) x => (g x, s)) (fun _ W => Below w.heap.size w W) (fun _ => True) (Fn.func gf) #[] lb (w.heap.size + 1) zs V0 V1 V2 V3 V4 p b off c hp hl
    (fun s W j hW hj => ?_) (fun _ _ _ _ _ => trivial) (all1_dist (fun (s : Unit) x => (g x, s)) (fun _ W => Below w.heap.size w W) (fun _ => True) (w.heap.size + 1) gf lb eg zs V0 V1 V2 V3 V4 hk (fun s W j hj _ hW => (hcall W j hj hW).mono fun e w' h => ⟨h.1, hW.trans (h.2.mono hW.size), Kp.ofBelow h.2 (Nat.le_refl _)⟩)) hk () w (by omega) trivial (Below.refl _ _)).mono ?_
  · have hne : zs ≠ [] := by rintro rfl; simp at hj
    have hlt := hb hne
    obtain ⟨c0, c1, c2, c3, c4⟩ := hc j hj
    exact ⟨(hW.cell (p := ⟨b, _, none⟩) hlt).trans c0, (hW.cell (p := ⟨b, _, none⟩) hlt).trans c1, (hW.cell (p := ⟨b, _, none⟩) hlt).trans c2, (hW.cell (p := ⟨b, _, none⟩) hlt).trans c3, (hW.cell (p := ⟨b, _, none⟩) hlt).trans c4⟩
  · rintro e w' ⟨rfl, h, _⟩
    rw [allS_pure]
    exact ⟨rfl, h⟩
theorem allB_mat {α : Type} (g : α → Bool) (gf : Nat) (lb : Array Value) (eg : ∀ args w, (callFunc gf args).run Tryz.prog w = .ok (.enter gf args) w)
    (zs : List α) (V0 V1 : Nat → Value) (p : Option Addr) (b off c : Nat) (hp : zs ≠ [] → p = some ⟨b, off, none⟩) (hl : zs.length ≤ 6000000000000) (w : World) (hb : zs ≠ [] → b < w.heap.size) (hc : ∀ j, j < zs.length → w.cell? ⟨b, off + j * 2, none⟩ = some (V0 j) ∧ w.cell? ⟨b, off + j * 2 + 1, none⟩ = some (V1 j))
    (hcall : ∀ W j (h : j < zs.length), Below w.heap.size w W → Calls Tryz.prog gf (#[.agg #[V0 j, V1 j]] ++ lb) W fun e w' => e = .returned (.bool (g zs[j])) ∧ Below W.heap.size W w') :
    Calls Tryz.prog 75 #[.slice p zs.length c, .func (Fn.func gf) #[] lb] w fun e w' => e = .returned (.bool (zs.all g)) ∧ Below w.heap.size w w' := by
  have hk : ∀ (s : Unit) W W', (fun (_ : Unit) W => Below w.heap.size w W) s W → Below W.heap.size W W' → (fun (_ : Unit) W => Below w.heap.size w W) s W' := fun _ _ _ h1 h2 => h1.trans (h2.mono h1.size)
  refine (all_mat (fun (s : Unit) x => (g x, s)) (fun _ W => Below w.heap.size w W) (fun _ => True) (Fn.func gf) #[] lb (w.heap.size + 1) zs V0 V1 p b off c hp hl
    (fun s W j hW hj => ?_) (fun _ _ _ _ _ => trivial) (all1_mat (fun (s : Unit) x => (g x, s)) (fun _ W => Below w.heap.size w W) (fun _ => True) (w.heap.size + 1) gf lb eg zs V0 V1 hk (fun s W j hj _ hW => (hcall W j hj hW).mono fun e w' h => ⟨h.1, hW.trans (h.2.mono hW.size), Kp.ofBelow h.2 (Nat.le_refl _)⟩)) hk () w (by omega) trivial (Below.refl _ _)).mono ?_
  · have hne : zs ≠ [] := by rintro rfl; simp at hj
    have hlt := hb hne
    obtain ⟨c0, c1⟩ := hc j hj
    exact ⟨(hW.cell (p := ⟨b, _, none⟩) hlt).trans c0, (hW.cell (p := ⟨b, _, none⟩) hlt).trans c1⟩
  · rintro e w' ⟨rfl, h, _⟩
    rw [allS_pure]
    exact ⟨rfl, h⟩
theorem allB_leg {α : Type} (g : α → Bool) (gf : Nat) (lb : Array Value) (eg : ∀ args w, (callFunc gf args).run Tryz.prog w = .ok (.enter gf args) w)
    (zs : List α) (V0 V1 V2 V3 : Nat → Value) (p : Option Addr) (b off c : Nat) (hp : zs ≠ [] → p = some ⟨b, off, none⟩) (hl : zs.length ≤ 6000000000000) (w : World) (hb : zs ≠ [] → b < w.heap.size) (hc : ∀ j, j < zs.length → w.cell? ⟨b, off + j * 4, none⟩ = some (V0 j) ∧ w.cell? ⟨b, off + j * 4 + 1, none⟩ = some (V1 j) ∧ w.cell? ⟨b, off + j * 4 + 2, none⟩ = some (V2 j) ∧ w.cell? ⟨b, off + j * 4 + 3, none⟩ = some (V3 j))
    (hcall : ∀ W j (h : j < zs.length), Below w.heap.size w W → Calls Tryz.prog gf (#[.agg #[V0 j, V1 j, V2 j, V3 j]] ++ lb) W fun e w' => e = .returned (.bool (g zs[j])) ∧ Below W.heap.size W w') :
    Calls Tryz.prog 77 #[.slice p zs.length c, .func (Fn.func gf) #[] lb] w fun e w' => e = .returned (.bool (zs.all g)) ∧ Below w.heap.size w w' := by
  have hk : ∀ (s : Unit) W W', (fun (_ : Unit) W => Below w.heap.size w W) s W → Below W.heap.size W W' → (fun (_ : Unit) W => Below w.heap.size w W) s W' := fun _ _ _ h1 h2 => h1.trans (h2.mono h1.size)
  refine (all_leg (fun (s : Unit) x => (g x, s)) (fun _ W => Below w.heap.size w W) (fun _ => True) (Fn.func gf) #[] lb (w.heap.size + 1) zs V0 V1 V2 V3 p b off c hp hl
    (fun s W j hW hj => ?_) (fun _ _ _ _ _ => trivial) (all1_leg (fun (s : Unit) x => (g x, s)) (fun _ W => Below w.heap.size w W) (fun _ => True) (w.heap.size + 1) gf lb eg zs V0 V1 V2 V3 hk (fun s W j hj _ hW => (hcall W j hj hW).mono fun e w' h => ⟨h.1, hW.trans (h.2.mono hW.size), Kp.ofBelow h.2 (Nat.le_refl _)⟩)) hk () w (by omega) trivial (Below.refl _ _)).mono ?_
  · have hne : zs ≠ [] := by rintro rfl; simp at hj
    have hlt := hb hne
    obtain ⟨c0, c1, c2, c3⟩ := hc j hj
    exact ⟨(hW.cell (p := ⟨b, _, none⟩) hlt).trans c0, (hW.cell (p := ⟨b, _, none⟩) hlt).trans c1, (hW.cell (p := ⟨b, _, none⟩) hlt).trans c2, (hW.cell (p := ⟨b, _, none⟩) hlt).trans c3⟩
  · rintro e w' ⟨rfl, h, _⟩
    rw [allS_pure]
    exact ⟨rfl, h⟩
theorem allB_wave {α : Type} (g : α → Bool) (gf : Nat) (lb : Array Value) (eg : ∀ args w, (callFunc gf args).run Tryz.prog w = .ok (.enter gf args) w)
    (zs : List α) (V0 V1 : Nat → Value) (p : Option Addr) (b off c : Nat) (hp : zs ≠ [] → p = some ⟨b, off, none⟩) (hl : zs.length ≤ 6000000000000) (w : World) (hb : zs ≠ [] → b < w.heap.size) (hc : ∀ j, j < zs.length → w.cell? ⟨b, off + j * 2, none⟩ = some (V0 j) ∧ w.cell? ⟨b, off + j * 2 + 1, none⟩ = some (V1 j))
    (hcall : ∀ W j (h : j < zs.length), Below w.heap.size w W → Calls Tryz.prog gf (#[.agg #[V0 j, V1 j]] ++ lb) W fun e w' => e = .returned (.bool (g zs[j])) ∧ Below W.heap.size W w') :
    Calls Tryz.prog 82 #[.slice p zs.length c, .func (Fn.func gf) #[] lb] w fun e w' => e = .returned (.bool (zs.all g)) ∧ Below w.heap.size w w' := by
  have hk : ∀ (s : Unit) W W', (fun (_ : Unit) W => Below w.heap.size w W) s W → Below W.heap.size W W' → (fun (_ : Unit) W => Below w.heap.size w W) s W' := fun _ _ _ h1 h2 => h1.trans (h2.mono h1.size)
  refine (all_wave (fun (s : Unit) x => (g x, s)) (fun _ W => Below w.heap.size w W) (fun _ => True) (Fn.func gf) #[] lb (w.heap.size + 1) zs V0 V1 p b off c hp hl
    (fun s W j hW hj => ?_) (fun _ _ _ _ _ => trivial) (all1_wave (fun (s : Unit) x => (g x, s)) (fun _ W => Below w.heap.size w W) (fun _ => True) (w.heap.size + 1) gf lb eg zs V0 V1 hk (fun s W j hj _ hW => (hcall W j hj hW).mono fun e w' h => ⟨h.1, hW.trans (h.2.mono hW.size), Kp.ofBelow h.2 (Nat.le_refl _)⟩)) hk () w (by omega) trivial (Below.refl _ _)).mono ?_
  · have hne : zs ≠ [] := by rintro rfl; simp at hj
    have hlt := hb hne
    obtain ⟨c0, c1⟩ := hc j hj
    exact ⟨(hW.cell (p := ⟨b, _, none⟩) hlt).trans c0, (hW.cell (p := ⟨b, _, none⟩) hlt).trans c1⟩
  · rintro e w' ⟨rfl, h, _⟩
    rw [allS_pure]
    exact ⟨rfl, h⟩
theorem allB_off {α : Type} (g : α → Bool) (gf : Nat) (lb : Array Value) (eg : ∀ args w, (callFunc gf args).run Tryz.prog w = .ok (.enter gf args) w)
    (zs : List α) (V0 V1 V2 V3 : Nat → Value) (p : Option Addr) (b off c : Nat) (hp : zs ≠ [] → p = some ⟨b, off, none⟩) (hl : zs.length ≤ 6000000000000) (w : World) (hb : zs ≠ [] → b < w.heap.size) (hc : ∀ j, j < zs.length → w.cell? ⟨b, off + j * 4, none⟩ = some (V0 j) ∧ w.cell? ⟨b, off + j * 4 + 1, none⟩ = some (V1 j) ∧ w.cell? ⟨b, off + j * 4 + 2, none⟩ = some (V2 j) ∧ w.cell? ⟨b, off + j * 4 + 3, none⟩ = some (V3 j))
    (hcall : ∀ W j (h : j < zs.length), Below w.heap.size w W → Calls Tryz.prog gf (#[.agg #[V0 j, V1 j, V2 j, V3 j]] ++ lb) W fun e w' => e = .returned (.bool (g zs[j])) ∧ Below W.heap.size W w') :
    Calls Tryz.prog 84 #[.slice p zs.length c, .func (Fn.func gf) #[] lb] w fun e w' => e = .returned (.bool (zs.all g)) ∧ Below w.heap.size w w' := by
  have hk : ∀ (s : Unit) W W', (fun (_ : Unit) W => Below w.heap.size w W) s W → Below W.heap.size W W' → (fun (_ : Unit) W => Below w.heap.size w W) s W' := fun _ _ _ h1 h2 => h1.trans (h2.mono h1.size)
  refine (all_off (fun (s : Unit) x => (g x, s)) (fun _ W => Below w.heap.size w W) (fun _ => True) (Fn.func gf) #[] lb (w.heap.size + 1) zs V0 V1 V2 V3 p b off c hp hl
    (fun s W j hW hj => ?_) (fun _ _ _ _ _ => trivial) (all1_off (fun (s : Unit) x => (g x, s)) (fun _ W => Below w.heap.size w W) (fun _ => True) (w.heap.size + 1) gf lb eg zs V0 V1 V2 V3 hk (fun s W j hj _ hW => (hcall W j hj hW).mono fun e w' h => ⟨h.1, hW.trans (h.2.mono hW.size), Kp.ofBelow h.2 (Nat.le_refl _)⟩)) hk () w (by omega) trivial (Below.refl _ _)).mono ?_
  · have hne : zs ≠ [] := by rintro rfl; simp at hj
    have hlt := hb hne
    obtain ⟨c0, c1, c2, c3⟩ := hc j hj
    exact ⟨(hW.cell (p := ⟨b, _, none⟩) hlt).trans c0, (hW.cell (p := ⟨b, _, none⟩) hlt).trans c1, (hW.cell (p := ⟨b, _, none⟩) hlt).trans c2, (hW.cell (p := ⟨b, _, none⟩) hlt).trans c3⟩
  · rintro e w' ⟨rfl, h, _⟩
    rw [allS_pure]
    exact ⟨rfl, h⟩
theorem allB_cat {α : Type} (g : α → Bool) (gf : Nat) (lb : Array Value) (eg : ∀ args w, (callFunc gf args).run Tryz.prog w = .ok (.enter gf args) w)
    (zs : List α) (V0 V1 V2 : Nat → Value) (p : Option Addr) (b off c : Nat) (hp : zs ≠ [] → p = some ⟨b, off, none⟩) (hl : zs.length ≤ 6000000000000) (w : World) (hb : zs ≠ [] → b < w.heap.size) (hc : ∀ j, j < zs.length → w.cell? ⟨b, off + j * 3, none⟩ = some (V0 j) ∧ w.cell? ⟨b, off + j * 3 + 1, none⟩ = some (V1 j) ∧ w.cell? ⟨b, off + j * 3 + 2, none⟩ = some (V2 j))
    (hcall : ∀ W j (h : j < zs.length), Below w.heap.size w W → Calls Tryz.prog gf (#[.agg #[V0 j, V1 j, V2 j]] ++ lb) W fun e w' => e = .returned (.bool (g zs[j])) ∧ Below W.heap.size W w') :
    Calls Tryz.prog 86 #[.slice p zs.length c, .func (Fn.func gf) #[] lb] w fun e w' => e = .returned (.bool (zs.all g)) ∧ Below w.heap.size w w' := by
  have hk : ∀ (s : Unit) W W', (fun (_ : Unit) W => Below w.heap.size w W) s W → Below W.heap.size W W' → (fun (_ : Unit) W => Below w.heap.size w W) s W' := fun _ _ _ h1 h2 => h1.trans (h2.mono h1.size)
  refine (all_cat (fun (s : Unit) x => (g x, s)) (fun _ W => Below w.heap.size w W) (fun _ => True) (Fn.func gf) #[] lb (w.heap.size + 1) zs V0 V1 V2 p b off c hp hl
    (fun s W j hW hj => ?_) (fun _ _ _ _ _ => trivial) (all1_cat (fun (s : Unit) x => (g x, s)) (fun _ W => Below w.heap.size w W) (fun _ => True) (w.heap.size + 1) gf lb eg zs V0 V1 V2 hk (fun s W j hj _ hW => (hcall W j hj hW).mono fun e w' h => ⟨h.1, hW.trans (h.2.mono hW.size), Kp.ofBelow h.2 (Nat.le_refl _)⟩)) hk () w (by omega) trivial (Below.refl _ _)).mono ?_
  · have hne : zs ≠ [] := by rintro rfl; simp at hj
    have hlt := hb hne
    obtain ⟨c0, c1, c2⟩ := hc j hj
    exact ⟨(hW.cell (p := ⟨b, _, none⟩) hlt).trans c0, (hW.cell (p := ⟨b, _, none⟩) hlt).trans c1, (hW.cell (p := ⟨b, _, none⟩) hlt).trans c2⟩
  · rintro e w' ⟨rfl, h, _⟩
    rw [allS_pure]
    exact ⟨rfl, h⟩
theorem allB_prize {α : Type} (g : α → Bool) (gf : Nat) (lb : Array Value) (eg : ∀ args w, (callFunc gf args).run Tryz.prog w = .ok (.enter gf args) w)
    (zs : List α) (V0 V1 V2 V3 : Nat → Value) (p : Option Addr) (b off c : Nat) (hp : zs ≠ [] → p = some ⟨b, off, none⟩) (hl : zs.length ≤ 6000000000000) (w : World) (hb : zs ≠ [] → b < w.heap.size) (hc : ∀ j, j < zs.length → w.cell? ⟨b, off + j * 4, none⟩ = some (V0 j) ∧ w.cell? ⟨b, off + j * 4 + 1, none⟩ = some (V1 j) ∧ w.cell? ⟨b, off + j * 4 + 2, none⟩ = some (V2 j) ∧ w.cell? ⟨b, off + j * 4 + 3, none⟩ = some (V3 j))
    (hcall : ∀ W j (h : j < zs.length), Below w.heap.size w W → Calls Tryz.prog gf (#[.agg #[V0 j, V1 j, V2 j, V3 j]] ++ lb) W fun e w' => e = .returned (.bool (g zs[j])) ∧ Below W.heap.size W w') :
    Calls Tryz.prog 88 #[.slice p zs.length c, .func (Fn.func gf) #[] lb] w fun e w' => e = .returned (.bool (zs.all g)) ∧ Below w.heap.size w w' := by
  have hk : ∀ (s : Unit) W W', (fun (_ : Unit) W => Below w.heap.size w W) s W → Below W.heap.size W W' → (fun (_ : Unit) W => Below w.heap.size w W) s W' := fun _ _ _ h1 h2 => h1.trans (h2.mono h1.size)
  refine (all_prize (fun (s : Unit) x => (g x, s)) (fun _ W => Below w.heap.size w W) (fun _ => True) (Fn.func gf) #[] lb (w.heap.size + 1) zs V0 V1 V2 V3 p b off c hp hl
    (fun s W j hW hj => ?_) (fun _ _ _ _ _ => trivial) (all1_prize (fun (s : Unit) x => (g x, s)) (fun _ W => Below w.heap.size w W) (fun _ => True) (w.heap.size + 1) gf lb eg zs V0 V1 V2 V3 hk (fun s W j hj _ hW => (hcall W j hj hW).mono fun e w' h => ⟨h.1, hW.trans (h.2.mono hW.size), Kp.ofBelow h.2 (Nat.le_refl _)⟩)) hk () w (by omega) trivial (Below.refl _ _)).mono ?_
  · have hne : zs ≠ [] := by rintro rfl; simp at hj
    have hlt := hb hne
    obtain ⟨c0, c1, c2, c3⟩ := hc j hj
    exact ⟨(hW.cell (p := ⟨b, _, none⟩) hlt).trans c0, (hW.cell (p := ⟨b, _, none⟩) hlt).trans c1, (hW.cell (p := ⟨b, _, none⟩) hlt).trans c2, (hW.cell (p := ⟨b, _, none⟩) hlt).trans c3⟩
  · rintro e w' ⟨rfl, h, _⟩
    rw [allS_pure]
    exact ⟨rfl, h⟩
theorem allB_cut {α : Type} (g : α → Bool) (gf : Nat) (lb : Array Value) (eg : ∀ args w, (callFunc gf args).run Tryz.prog w = .ok (.enter gf args) w)
    (zs : List α) (V0 V1 V2 : Nat → Value) (p : Option Addr) (b off c : Nat) (hp : zs ≠ [] → p = some ⟨b, off, none⟩) (hl : zs.length ≤ 6000000000000) (w : World) (hb : zs ≠ [] → b < w.heap.size) (hc : ∀ j, j < zs.length → w.cell? ⟨b, off + j * 3, none⟩ = some (V0 j) ∧ w.cell? ⟨b, off + j * 3 + 1, none⟩ = some (V1 j) ∧ w.cell? ⟨b, off + j * 3 + 2, none⟩ = some (V2 j))
    (hcall : ∀ W j (h : j < zs.length), Below w.heap.size w W → Calls Tryz.prog gf (#[.agg #[V0 j, V1 j, V2 j]] ++ lb) W fun e w' => e = .returned (.bool (g zs[j])) ∧ Below W.heap.size W w') :
    Calls Tryz.prog 144 #[.slice p zs.length c, .func (Fn.func gf) #[] lb] w fun e w' => e = .returned (.bool (zs.all g)) ∧ Below w.heap.size w w' := by
  have hk : ∀ (s : Unit) W W', (fun (_ : Unit) W => Below w.heap.size w W) s W → Below W.heap.size W W' → (fun (_ : Unit) W => Below w.heap.size w W) s W' := fun _ _ _ h1 h2 => h1.trans (h2.mono h1.size)
  refine (all_cut (fun (s : Unit) x => (g x, s)) (fun _ W => Below w.heap.size w W) (fun _ => True) (Fn.func gf) #[] lb (w.heap.size + 1) zs V0 V1 V2 p b off c hp hl
    (fun s W j hW hj => ?_) (fun _ _ _ _ _ => trivial) (all1_cut (fun (s : Unit) x => (g x, s)) (fun _ W => Below w.heap.size w W) (fun _ => True) (w.heap.size + 1) gf lb eg zs V0 V1 V2 hk (fun s W j hj _ hW => (hcall W j hj hW).mono fun e w' h => ⟨h.1, hW.trans (h.2.mono hW.size), Kp.ofBelow h.2 (Nat.le_refl _)⟩)) hk () w (by omega) trivial (Below.refl _ _)).mono ?_
  · have hne : zs ≠ [] := by rintro rfl; simp at hj
    have hlt := hb hne
    obtain ⟨c0, c1, c2⟩ := hc j hj
    exact ⟨(hW.cell (p := ⟨b, _, none⟩) hlt).trans c0, (hW.cell (p := ⟨b, _, none⟩) hlt).trans c1, (hW.cell (p := ⟨b, _, none⟩) hlt).trans c2⟩
  · rintro e w' ⟨rfl, h, _⟩
    rw [allS_pure]
    exact ⟨rfl, h⟩
theorem allB_part {α : Type} (g : α → Bool) (gf : Nat) (lb : Array Value) (eg : ∀ args w, (callFunc gf args).run Tryz.prog w = .ok (.enter gf args) w)
    (zs : List α) (V0 V1 V2 : Nat → Value) (p : Option Addr) (b off c : Nat) (hp : zs ≠ [] → p = some ⟨b, off, none⟩) (hl : zs.length ≤ 6000000000000) (w : World) (hb : zs ≠ [] → b < w.heap.size) (hc : ∀ j, j < zs.length → w.cell? ⟨b, off + j * 3, none⟩ = some (V0 j) ∧ w.cell? ⟨b, off + j * 3 + 1, none⟩ = some (V1 j) ∧ w.cell? ⟨b, off + j * 3 + 2, none⟩ = some (V2 j))
    (hcall : ∀ W j (h : j < zs.length), Below w.heap.size w W → Calls Tryz.prog gf (#[.agg #[V0 j, V1 j, V2 j]] ++ lb) W fun e w' => e = .returned (.bool (g zs[j])) ∧ Below W.heap.size W w') :
    Calls Tryz.prog 126 #[.slice p zs.length c, .func (Fn.func gf) #[] lb] w fun e w' => e = .returned (.bool (zs.all g)) ∧ Below w.heap.size w w' := by
  have hk : ∀ (s : Unit) W W', (fun (_ : Unit) W => Below w.heap.size w W) s W → Below W.heap.size W W' → (fun (_ : Unit) W => Below w.heap.size w W) s W' := fun _ _ _ h1 h2 => h1.trans (h2.mono h1.size)
  refine (all_part (fun (s : Unit) x => (g x, s)) (fun _ W => Below w.heap.size w W) (fun _ => True) (Fn.func gf) #[] lb (w.heap.size + 1) zs V0 V1 V2 p b off c hp hl
    (fun s W j hW hj => ?_) (fun _ _ _ _ _ => trivial) (all1_part (fun (s : Unit) x => (g x, s)) (fun _ W => Below w.heap.size w W) (fun _ => True) (w.heap.size + 1) gf lb eg zs V0 V1 V2 hk (fun s W j hj _ hW => (hcall W j hj hW).mono fun e w' h => ⟨h.1, hW.trans (h.2.mono hW.size), Kp.ofBelow h.2 (Nat.le_refl _)⟩)) hk () w (by omega) trivial (Below.refl _ _)).mono ?_
  · have hne : zs ≠ [] := by rintro rfl; simp at hj
    have hlt := hb hne
    obtain ⟨c0, c1, c2⟩ := hc j hj
    exact ⟨(hW.cell (p := ⟨b, _, none⟩) hlt).trans c0, (hW.cell (p := ⟨b, _, none⟩) hlt).trans c1, (hW.cell (p := ⟨b, _, none⟩) hlt).trans c2⟩
  · rintro e w' ⟨rfl, h, _⟩
    rw [allS_pure]
    exact ⟨rfl, h⟩
end Go.Proofs.YtabdgnigmlpeaaaGreatDoor
/- limited, of parts. -/
namespace Go.Proofs.YtabdgnigmlpeaaaGreatDoor
open Go.RowKit

/-- A part of a route. -/
inductive Pt
  | mk (mat laps : Int) (parts : List Pt)
def Pt.m : Pt → Int | .mk m _ _ => m
def Pt.l : Pt → Int | .mk _ l _ => l
def Pt.ps : Pt → List Pt | .mk _ _ ps => ps
def Pt.zero : Pt := .mk 0 0 []
def pV (c : Pt) (p : Option Addr) (cap : Nat) : Value := .agg #[.int .i64 c.m, .int .i64 c.l, .slice p c.ps.length cap]
/-- The part, whose parts are the slice at p with room cap, lies in memory, in blocks of which Q holds. -/
inductive PtIn (w : World) (Q : Nat → Prop) : Pt → Option Addr → Nat → Prop
  | mk (m l : Int) (ps : List Pt) (p : Option Addr) (cap b off : Nat) (P : Nat → Option Addr) (C : Nat → Nat)
      (hl : ps.length ≤ 6000000000000) (hc : ps.length ≤ cap) (hc2 : cap ≤ 9223372036854775807) (hp : p = none → cap = 0)
      (hb : ps ≠ [] → p = some ⟨b, off, none⟩ ∧ Q b ∧ b < w.heap.size)
      (hcell : ∀ i (h : i < ps.length), w.cell? ⟨b, off + i * 3, none⟩ = some (.int .i64 ps[i].m) ∧ w.cell? ⟨b, off + i * 3 + 1, none⟩ = some (.int .i64 ps[i].l) ∧ w.cell? ⟨b, off + i * 3 + 2, none⟩ = some (.slice (P i) ps[i].ps.length (C i)))
      (hsub : ∀ i (h : i < ps.length), PtIn w Q ps[i] (P i) (C i)) : PtIn w Q (.mk m l ps) p cap
theorem PtIn.keep2 {w w' : World} {Q Q' : Nat → Prop} {c : Pt} {p : Option Addr} {cap : Nat} (h : PtIn w Q c p cap) (hs : w.heap.size ≤ w'.heap.size) (hk : ∀ b, Q b → b < w.heap.size → Q' b ∧ w'.heap[b]? = w.heap[b]?) : PtIn w' Q' c p cap := by
  induction h with
  | mk m l ps p cap b off P C hl hc hc2 hp hb hcell hsub ih =>
    refine .mk m l ps p cap b off P C hl hc hc2 hp (fun hne => ⟨(hb hne).1, (hk b (hb hne).2.1 (hb hne).2.2).1, Nat.lt_of_lt_of_le (hb hne).2.2 hs⟩) (fun i hi => ?_) ih
    obtain ⟨_, h1, h2⟩ := hb (by rintro rfl; simp at hi)
    have hh := fun o => World.cell?_of_block (a := ⟨b, o, none⟩) (hk b h1 h2).2
    obtain ⟨c1, c2, c3⟩ := hcell i hi
    exact ⟨(hh _).trans c1, (hh _).trans c2, (hh _).trans c3⟩
theorem PtIn.bel {w w' : World} {Q : Nat → Prop} {c : Pt} {p : Option Addr} {cap : Nat} (h : PtIn w Q c p cap) (hb : Below w.heap.size w w') : PtIn w' Q c p cap := h.keep2 hb.size fun b h1 hl => ⟨h1, hb.block b hl⟩
mutual
/-- A part as a condition: for counting. -/
def toCd : Pt → Cd
  | .mk m l ps => .mk m l 0 (toCds ps)
def toCds : List Pt → List Cd
  | [] => []
  | p :: l => toCd p :: toCds l
end
theorem toCds_eq : ∀ l : List Pt, toCds l = l.map toCd
  | [] => by rw [toCds]; rfl
  | c :: l => by rw [toCds, toCds_eq l]; rfl
theorem toCd_ps (c : Pt) : (toCd c).ps = c.ps.map toCd := by
  obtain ⟨m, l, ps⟩ := c
  rw [toCd, ← toCds_eq]; rfl
theorem allS_map {α β σ : Type} (f : σ → β → Bool × σ) (g : α → β) : ∀ (l : List α) (s : σ), allS f s (l.map g) = allS (fun s x => f s (g x)) s l
  | [], s => rfl
  | x :: l, s => by
    rw [List.map_cons, allS, allS]
    split
    · exact allS_map f g l _
    · rfl

set_option maxHeartbeats 1000000 in
/-- The inmost closure: it goes on one level deeper. -/
theorem lim3p_any (T : Bool × Int) (m : Option Addr) (n cap : Nat) (d : Nat) (hd : d ≤ 100) (L I F D : Nat) (W : World) (hC : LimC W 59 125 L I F) (hD : W.cell? ⟨D, 0, none⟩ = some (.int .i64 d))
    (h : ∀ W', Below W.heap.size W W' → Calls Tryz.prog 125 #[.slice m n cap, .int .i64 ((d + 1 : Nat) : Int), .pointer (some ⟨L, 0, none⟩), .pointer (some ⟨I, 0, none⟩), .pointer (some ⟨F, 0, none⟩)] W' fun e w' => e = .returned (.bool T.1) ∧ Left w' L T.2 ∧ Kp W' w' L) :
    Calls Tryz.prog 129 #[.slice m n cap, .pointer (some ⟨F, 0, none⟩), .pointer (some ⟨D, 0, none⟩)] W fun e w' => e = .returned (.bool T.1) ∧ Left w' L T.2 ∧ Kp W w' L := by
  have H := Lib.hid (h W (Below.refl _ _))
  have hw : ((d + 1 : Nat) : Int) = (d : Int) + 1 := by omega
  rw [hw] at H
  have cf := hC.cf
  clear h hC hw
  go_enter Tryz.func129, Tryz.ntmps129
  go_wp2_with (go_at_call 125; (with_reducible refine H.out.mono ?_); rintro e w1 ⟨rfl, hr⟩; have HR := Lib.hid hr; clear hr)
  go_ret
  exact ⟨rfl, HR.out⟩

set_option maxHeartbeats 1000000 in
theorem partsP_any (c : Pt) (p : Option Addr) (cap : Nat) (w : World) :
    Calls Tryz.prog 59 #[pV c p cap] w fun e w' => ∃ a, e = .returned (.slice (some ⟨a, 0, none⟩) 1 1) ∧ w'.cell? ⟨a, 0, none⟩ = some (.slice p c.ps.length cap) ∧ w.heap.size ≤ a ∧ Below w.heap.size w w' := by
  have hA := (Below.refl w.heap.size w).alloc (Nat.le_refl _) (.cells #[.int .i64 c.m, .int .i64 c.l, .slice p c.ps.length cap] 105)
  have HA2 := Lib.hid (hA.alloc hA.size (.cells #[.slice p c.ps.length cap] 63))
  have HX : Hid (((w.alloc (.cells #[.int .i64 c.m, .int .i64 c.l, .slice p c.ps.length cap] 105)).alloc (.cells #[.slice p c.ps.length cap] 63)).cell? ⟨w.heap.size + 1, 0, none⟩ = some (.slice p c.ps.length cap)) := Lib.hid (by simp [go_sem])
  unfold pV
  clear hA
  generalize c.m = x1 at *
  generalize c.l = x2 at *
  generalize c.ps.length = l at *
  go_enter Tryz.func59, Tryz.ntmps59
  go_wp2_with fail
  go_ret
  exact ⟨w.heap.size + 1, rfl, HX.out, by omega, HA2.out⟩

set_option maxHeartbeats 2000000 in
/-- The closure in the middle: a condition's parts. -/
theorem lim2p_any (c : Pt) (p : Option Addr) (cap : Nat) (d : Nat) (hd : d ≤ 50) (L I F D : Nat) (W : World) (s : Int) (hs0 : 0 ≤ s) (hs1 : s ≤ 256) (hC : LimC W 59 125 L I F) (hD : W.cell? ⟨D, 0, none⟩ = some (.int .i64 d)) (hDL : D ≠ L) (hLe : Left W L s)
    (h : ∀ W' s, Kp W W' L → Left W' L s → 0 ≤ s → s ≤ 256 → Calls Tryz.prog 125 #[.slice p c.ps.length cap, .int .i64 ((d + 1 : Nat) : Int), .pointer (some ⟨L, 0, none⟩), .pointer (some ⟨I, 0, none⟩), .pointer (some ⟨F, 0, none⟩)] W' fun e w' => e = .returned (.bool (fitL (d + 1) s (c.ps.map toCd)).1) ∧ Left w' L (fitL (d + 1) s (c.ps.map toCd)).2 ∧ Kp W' w' L) :
    Calls Tryz.prog 127 #[pV c p cap, .pointer (some ⟨I, 0, none⟩), .pointer (some ⟨F, 0, none⟩), .pointer (some ⟨D, 0, none⟩)] W fun e w' => e = .returned (.bool (fitC d s (toCd c)).1) ∧ Left w' L (fitC d s (toCd c)).2 ∧ Kp W w' L := by
  have hA := (Below.refl W.heap.size W).alloc (Nat.le_refl _) (.cells #[.int .i64 c.m, .int .i64 c.l, .slice p c.ps.length cap] 105)
  have HP : Hid (∀ W1, W.alloc (.cells #[.int .i64 c.m, .int .i64 c.l, .slice p c.ps.length cap] 105) = W1 → Calls Tryz.prog 59 #[.agg #[.int .i64 c.m, .int .i64 c.l, .slice p c.ps.length cap]] W1 fun e w' => ∃ a, e = .returned (.slice (some ⟨a, 0, none⟩) 1 1) ∧ w'.cell? ⟨a, 0, none⟩ = some (.slice p c.ps.length cap) ∧ W.heap.size ≤ a ∧ Below W.heap.size W w') := Lib.hid fun W1 e1 => (partsP_any c p cap W1).mono fun e w' ⟨a, h1, h2, h3, h4⟩ => by
    subst e1
    exact ⟨a, h1, h2, Nat.le_trans hA.size h3, hA.trans (h4.mono hA.size)⟩
  have HN : Hid (∀ W2 a, Below W.heap.size W W2 → W.heap.size ≤ a → W2.cell? ⟨a, 0, none⟩ = some (.slice p c.ps.length cap) → Calls Tryz.prog 128 #[.slice (some ⟨a, 0, none⟩) 1 1, .func (Fn.func 129) #[] #[.pointer (some ⟨F, 0, none⟩), .pointer (some ⟨D, 0, none⟩)]] W2 fun e w' => e = .returned (.bool (fitC d s (toCd c)).1) ∧ Left w' L (fitC d s (toCd c)).2 ∧ Kp W w' L) := Lib.hid fun W2 a hb ha hc => by
    rw [fitC_eq, toCd_ps]
    have hk0 : Kp W W2 L := Kp.bel hb
    have hLe2 := hLe.bel hb
    have hf : ∀ s j (h : j < [()].length), (0 ≤ s ∧ s ≤ 256) → ((fun (s : Int) (_ : Unit) => fitL (d + 1) s (c.ps.map toCd)) s [()][j]).1 = true → (0 ≤ ((fun (s : Int) (_ : Unit) => fitL (d + 1) s (c.ps.map toCd)) s [()][j]).2 ∧ ((fun (s : Int) (_ : Unit) => fitL (d + 1) s (c.ps.map toCd)) s [()][j]).2 ≤ 256) := fun s j _ hs ht => by
      have := fitC_good d s (toCd c) hs.1 hs.2
      rw [fitC_eq, toCd_ps] at this
      exact this ht
    have hkeep : ∀ s W' W'', (fun (s : Int) W' => Left W' L s ∧ Kp W2 W' L) s W' → Below W'.heap.size W' W'' → (fun (s : Int) W' => Left W' L s ∧ Kp W2 W' L) s W'' := fun s W' W'' h1 h2 => ⟨h1.1.bel h2, h1.2.trans (Kp.bel h2)⟩
    have H := all_lpart (fun (s : Int) (_ : Unit) => fitL (d + 1) s (c.ps.map toCd)) (fun s W' => Left W' L s ∧ Kp W2 W' L) (fun s => 0 ≤ s ∧ s ≤ 256) (Fn.func 129) #[] #[.pointer (some ⟨F, 0, none⟩), .pointer (some ⟨D, 0, none⟩)] L [()] (fun _ => .slice p c.ps.length cap) (some ⟨a, 0, none⟩) a 0 1 (fun _ => rfl) (by simp)
      (fun s W' j hW hj => by
        obtain rfl : j = 0 := by simpa using hj
        exact keepk hW.2 (by have := hLe.lt; omega) hc) hf
      (all1_lpart (fun (s : Int) (_ : Unit) => fitL (d + 1) s (c.ps.map toCd)) (fun s W' => Left W' L s ∧ Kp W2 W' L) (fun s => 0 ≤ s ∧ s ≤ 256) L 129 #[.pointer (some ⟨F, 0, none⟩), .pointer (some ⟨D, 0, none⟩)] (enters_of Tryz.func129 (by kernel_rfl) rfl) [()] (fun _ => .slice p c.ps.length cap) hkeep
        fun s W' j hj hs hW => by
          have hk1 := hk0.trans hW.2
          refine (lim3p_any (fitL (d + 1) s (c.ps.map toCd)) p c.ps.length cap d (by omega) L I F D W' (hC.kp hk1) (keepk hk1 hDL hD) fun W3 hb3 => h W3 s (hk1.trans (Kp.bel hb3)) (hW.1.bel hb3) hs.1 hs.2).mono fun e w' hr => ⟨hr.1, ⟨hr.2.1, hW.2.trans hr.2.2⟩, hr.2.2⟩)
      hkeep s W2 (by have := hLe.lt; have := hb.size; omega) ⟨hs0, hs1⟩ ⟨hLe2, Kp.refl _ _⟩
    rw [allS_one] at H
    exact H.mono fun e w' hr => ⟨hr.1, hr.2.1.1, hk0.trans hr.2.1.2⟩
  have ci := keepc hA hC.ci
  unfold pV
  clear h hC hD hLe hA
  generalize c.m = x1 at *
  generalize c.l = x2 at *
  generalize c.ps.length = l at *
  generalize fitC d s (toCd c) = T at *
  have hmf : ∀ (fn : Fn) (first cap : Array Value) (w : World), (Instr.makeFunc fn first cap).run Tryz.prog w = .ok (.func fn first cap) w := fun _ _ _ _ => rfl
  go_enter Tryz.func127, Tryz.ntmps127
  go_wp2_with (first | (go_at_call 59; (with_reducible refine (HP.out _ rfl).mono ?_); rintro e w1 ⟨a, rfl, h2, h3, h4⟩; have H2 := Lib.hid h2; have H3 := Lib.hid h3; have H4 := Lib.hid h4; clear h2 h3 h4) | (go_at_call 128; (with_reducible refine (HN.out _ _ H4.out H3.out H2.out).mono ?_); rintro e w2 ⟨rfl, hr⟩; have HR := Lib.hid hr; clear hr))
  go_ret
  exact ⟨rfl, HR.out⟩

set_option maxHeartbeats 2000000 in
/-- The recursive closure. -/
theorem fits_part (L I F : Nat) {w0 : World} {Q : Nat → Prop} {c : Pt} {p : Option Addr} {cap : Nat} (h : PtIn w0 Q c p cap) (hQ : ∀ b, Q b → b ≠ L) : ∀ (W : World) (d : Nat) (s : Int), Kp w0 W L → d ≤ 17 → 0 ≤ s → s ≤ 256 → LimC W 59 125 L I F → Left W L s →
    Calls Tryz.prog 125 #[.slice p c.ps.length cap, .int .i64 (d : Int), .pointer (some ⟨L, 0, none⟩), .pointer (some ⟨I, 0, none⟩), .pointer (some ⟨F, 0, none⟩)] W fun e w' => e = .returned (.bool (fitL d s (c.ps.map toCd)).1) ∧ Left w' L (fitL d s (c.ps.map toCd)).2 ∧ Kp W w' L := by
  induction h with
  | mk m l ps p cap b off P C hl hc hc2 hp hb hcell hsub ih =>
    intro W d s hk hd hs0 hs1 hC hLe
    show Calls _ _ #[.slice p ps.length cap, _, _, _, _] W fun e w' => e = .returned (.bool (fitL d s (ps.map toCd)).1) ∧ Left w' L (fitL d s (ps.map toCd)).2 ∧ Kp W w' L
    have hA := (Below.refl W.heap.size W).alloc (Nat.le_refl _) (.cells #[.int .i64 (d : Int)] 3)
    have hLe1 := hLe.bel hA
    have hcl := hLe1.c
    have hfz := hLe1.fz
    have hw : IntKind.i64.wrap (s - (ps.length : Int)) = s - (ps.length : Int) := IntWalk.i64_in _ (by omega)
    have HK2 : Hid (Kp W ((W.alloc (.cells #[.int .i64 (d : Int)] 3)).setCell ⟨L, 0, none⟩ (.int .i64 (s - (ps.length : Int)))) L) := Lib.hid ((Kp.bel hA).trans (Kp.own _ _ _ _))
    have HL2 := Lib.hid (hLe1.set (s - (ps.length : Int)))
    have HD2 : Hid (((W.alloc (.cells #[.int .i64 (d : Int)] 3)).setCell ⟨L, 0, none⟩ (.int .i64 (s - (ps.length : Int)))).cell? ⟨W.heap.size, 0, none⟩ = some (.int .i64 (d : Int))) := Lib.hid (keepk (Kp.own _ _ _ _) (by have := hLe.lt; omega) (by simp [go_sem]))
    have HDL : W.heap.size ≠ L := by have := hLe.lt; omega
    unfold fitL
    simp only [List.length_map, ne_eq, List.map_eq_nil_iff]
    have HN : Hid (¬(s - (ps.length : Int) < 0) → ¬(ps ≠ [] ∧ 16 < d) → Calls Tryz.prog 126 #[.slice p ps.length cap, .func (Fn.func 127) #[] #[.pointer (some ⟨I, 0, none⟩), .pointer (some ⟨F, 0, none⟩), .pointer (some ⟨W.heap.size, 0, none⟩)]] ((W.alloc (.cells #[.int .i64 (d : Int)] 3)).setCell ⟨L, 0, none⟩ (.int .i64 (s - (ps.length : Int)))) fun e w' => e = .returned (.bool (fitCs d (s - ps.length) (ps.map toCd)).1) ∧ Left w' L (fitCs d (s - ps.length) (ps.map toCd)).2 ∧ Kp W w' L) := Lib.hid fun hn1 hn2 => by
      have hd16 : ps ≠ [] → d ≤ 16 := fun hne => Nat.not_lt.1 fun h => hn2 ⟨hne, h⟩
      rw [fitCs_eq, allS_map]
      have hK2 := HK2.out
      have hL2 := HL2.out
      have hD2 := HD2.out
      have hszL := hLe.lt
      have hsz2 : W.heap.size < ((W.alloc (.cells #[.int .i64 (d : Int)] 3)).setCell ⟨L, 0, none⟩ (.int .i64 (s - (ps.length : Int)))).heap.size := by simp
      generalize ((W.alloc (.cells #[.int .i64 (d : Int)] 3)).setCell ⟨L, 0, none⟩ (.int .i64 (s - (ps.length : Int)))) = W2 at *
      have hf : ∀ s j (h : j < ps.length), (0 ≤ s ∧ s ≤ 256) → (fitC d s (toCd ps[j])).1 = true → (0 ≤ (fitC d s (toCd ps[j])).2 ∧ (fitC d s (toCd ps[j])).2 ≤ 256) := fun s j hj hs ht => fitC_good d s _ hs.1 hs.2 ht
      have hkeep : ∀ s W' W'', (fun (s : Int) W' => Left W' L s ∧ Kp W2 W' L) s W' → Below W'.heap.size W' W'' → (fun (s : Int) W' => Left W' L s ∧ Kp W2 W' L) s W'' := fun s W' W'' h1 h2 => ⟨h1.1.bel h2, h1.2.trans (Kp.bel h2)⟩
      have hg : ∀ j (h : j < ps.length), ps.getD j Pt.zero = ps[j] := fun j h => by simp [List.getD, h]
      have H := all_part (fun s x => fitC d s (toCd x)) (fun s W' => Left W' L s ∧ Kp W2 W' L) (fun s => 0 ≤ s ∧ s ≤ 256) (Fn.func 127) #[] #[.pointer (some ⟨I, 0, none⟩), .pointer (some ⟨F, 0, none⟩), .pointer (some ⟨W.heap.size, 0, none⟩)] L ps
        (fun j => .int .i64 (ps.getD j Pt.zero).m) (fun j => .int .i64 (ps.getD j Pt.zero).l) (fun j => .slice (P j) (ps.getD j Pt.zero).ps.length (C j)) p b off cap (fun hne => (hb hne).1) hl
        (fun s W' j hW hj => by
          have hne : ps ≠ [] := by rintro rfl; simp at hj
          obtain ⟨_, hq, _⟩ := hb hne
          obtain ⟨a0, a1, a2⟩ := hcell j hj
          have hkk := (hk.trans hK2).trans hW.2
          rw [hg j hj]
          exact ⟨keepk hkk (hQ b hq) a0, keepk hkk (hQ b hq) a1, keepk hkk (hQ b hq) a2⟩) hf
        (all1_part (fun s x => fitC d s (toCd x)) (fun s W' => Left W' L s ∧ Kp W2 W' L) (fun s => 0 ≤ s ∧ s ≤ 256) L 127 #[.pointer (some ⟨I, 0, none⟩), .pointer (some ⟨F, 0, none⟩), .pointer (some ⟨W.heap.size, 0, none⟩)] (enters_of Tryz.func127 (by kernel_rfl) rfl) ps
          (fun j => .int .i64 (ps.getD j Pt.zero).m) (fun j => .int .i64 (ps.getD j Pt.zero).l) (fun j => .slice (P j) (ps.getD j Pt.zero).ps.length (C j)) hkeep
          fun s W' j hj hs hW => by
            have hne : ps ≠ [] := by rintro rfl; simp at hj
            have hd2 := hd16 hne
            have hk1 := hK2.trans hW.2
            have hkk := hk.trans hk1
            have hlim := lim2p_any ps[j] (P j) (C j) d (by omega) L I F W.heap.size W' s hs.1 hs.2 (hC.kp hk1) (keepk hW.2 HDL hD2) HDL hW.1 fun W3 s3 hk3 hl3 h03 h13 => ih j hj W3 (d + 1) s3 (hkk.trans hk3) (by omega) h03 h13 ((hC.kp hk1).kp hk3) hl3
            unfold pV at hlim
            rw [← hg j hj] at hlim
            rw [← hg j hj]
            exact hlim.mono fun e w' hr => ⟨hr.1, ⟨hr.2.1, hW.2.trans hr.2.2⟩, hr.2.2⟩)
        hkeep (s - ps.length) W2 (by omega) ⟨by omega, by omega⟩ ⟨hL2, Kp.refl _ _⟩
      exact H.mono fun e w' hr => ⟨hr.1, hr.2.1.1, hK2.trans hr.2.1.2⟩
    have hd2 := HD2.out
    clear ih hsub hcell hb hk hC hLe hLe1 HD2 HDL hQ hw
    have hmf : ∀ (fn : Fn) (first cap : Array Value) (w : World), (Instr.makeFunc fn first cap).run Tryz.prog w = .ok (.func fn first cap) w := fun _ _ _ _ => rfl
    by_cases hbad : s - (ps.length : Int) < 0
    · rw [if_pos (.inl hbad)]
      clear HN
      go_enter Tryz.func125, Tryz.ntmps125
      go_wp2_with fail
      go_ret
      exact ⟨rfl, HL2.out, HK2.out⟩
    · by_cases hbad2 : ps ≠ [] ∧ 16 < d
      · rw [if_pos (.inr hbad2)]
        clear HN
        have h16 : (16 : Int) < (d : Int) := by omega
        have hne : (0 : Int) < (ps.length : Int) := by have := List.length_pos_iff.2 hbad2.1; omega
        clear hbad2
        go_enter Tryz.func125, Tryz.ntmps125
        go_wp2_with fail
        go_ret
        exact ⟨rfl, HL2.out, HK2.out⟩
      · rw [if_neg fun h => h.elim hbad hbad2]
        have HN2 := Lib.hid (HN.out hbad hbad2)
        clear HN
        by_cases hne : ps = []
        · have hz : ¬ (0 : Int) < (ps.length : Int) := by rw [hne]; decide
          clear hbad2 hne
          go_enter Tryz.func125, Tryz.ntmps125
          go_wp2_with (go_at_call 126; (with_reducible refine HN2.out.mono ?_); rintro e w1 ⟨rfl, hr⟩; have HR := Lib.hid hr; clear hr)
          go_ret
          exact ⟨rfl, HR.out⟩
        · have h16 : ¬ (16 : Int) < (d : Int) := fun h => hbad2 ⟨hne, by omega⟩
          have hnz : (0 : Int) < (ps.length : Int) := by have := List.length_pos_iff.2 hne; omega
          clear hbad2 hne
          go_enter Tryz.func125, Tryz.ntmps125
          go_wp2_with (go_at_call 126; (with_reducible refine HN2.out.mono ?_); rintro e w1 ⟨rfl, hr⟩; have HR := Lib.hid hr; clear hr)
          go_ret
          exact ⟨rfl, HR.out⟩
set_option maxHeartbeats 2000000 in
theorem limited_part {w : World} {Q : Nat → Prop} {c : Pt} {p : Option Addr} {cap : Nat} (h : PtIn w Q c p cap) :
    Calls Tryz.prog 58 #[.slice p c.ps.length cap, .func (Fn.func 59) #[] #[], .int .i64 256] w fun e w' => e = .returned (.bool (fitL 0 256 (c.ps.map toCd)).1) ∧ Below w.heap.size w w' := by
  have hA1 := (Below.refl w.heap.size w).alloc (Nat.le_refl _) (.cells #[.func (Fn.func 59) #[] #[]] 108)
  have hN : ∀ W, Below w.heap.size w W → LimC W 59 125 (w.heap.size + 1) w.heap.size (w.heap.size + 1 + 1) → Left W (w.heap.size + 1) 256 → Calls Tryz.prog 125 #[.slice p c.ps.length cap, .int .i64 0, .pointer (some ⟨w.heap.size + 1, 0, none⟩), .pointer (some ⟨w.heap.size, 0, none⟩), .pointer (some ⟨w.heap.size + 1 + 1, 0, none⟩)] W fun e w' => e = .returned (.bool (fitL 0 256 (c.ps.map toCd)).1) ∧ Below w.heap.size w w' := fun W hb h1 h2 =>
    (fits_part (w.heap.size + 1) w.heap.size (w.heap.size + 1 + 1) (h.keep2 (Q' := fun b => b < w.heap.size) (Nat.le_refl _) fun b _ hb => ⟨hb, rfl⟩) (fun b hb => by omega) W 0 256 (Kp.bel hb) (by omega) (by omega) (by omega) h1 h2).mono fun e w' hr => ⟨hr.1, hb.trans (hr.2.2.below (by omega) hb.size)⟩
  have HN := Lib.hid hN
  clear hN h hA1
  generalize (fitL 0 256 (c.ps.map toCd)).1 = T at *
  generalize c.ps.length = l at *
  have hmf : ∀ (fn : Fn) (first cap : Array Value) (w : World), (Instr.makeFunc fn first cap).run Tryz.prog w = .ok (.func fn first cap) w := fun _ _ _ _ => rfl
  go_enter Tryz.func58, Tryz.ntmps58
  go_wp2_with fail
  go_at_call 125
  have hA1 := (Below.refl w.heap.size w).alloc (Nat.le_refl _) (.cells #[.func (Fn.func 59) #[] #[]] 108)
  have hA2 := hA1.alloc hA1.size (.cells #[.int .i64 256] 3)
  have hA3 := hA2.alloc hA2.size (.cells #[(.func (Fn.func 125) #[] #[.pointer (some ⟨w.heap.size + 1, 0, none⟩), .pointer (some ⟨w.heap.size, 0, none⟩), .pointer (some ⟨w.heap.size + 1 + 1, 0, none⟩)])] 182)
  refine (HN.out (((w.alloc (.cells #[.func (Fn.func 59) #[] #[]] 108)).alloc (.cells #[.int .i64 256] 3)).alloc (.cells #[(.func (Fn.func 125) #[] #[.pointer (some ⟨w.heap.size + 1, 0, none⟩), .pointer (some ⟨w.heap.size, 0, none⟩), .pointer (some ⟨w.heap.size + 1 + 1, 0, none⟩)])] 182)) hA3 ⟨by simp [go_sem], by simp [go_sem], by omega, by omega⟩ ⟨by simp [go_sem], by simp [go_sem]⟩).mono ?_
  rintro e w1 ⟨rfl, hr⟩
  have HR := Lib.hid hr
  clear hr hA1 hA2 hA3
  go_wp2_with fail
  go_ret
  exact ⟨rfl, HR.out⟩
end Go.Proofs.YtabdgnigmlpeaaaGreatDoor
/- A course in memory; the limits of its lists. -/
namespace Go.Proofs.YtabdgnigmlpeaaaGreatDoor
open Go.RowKit

structure MatD where
  n : ByteArray
  k : Int
structure LegD where
  f : Int
  t : Int
  mi : Int
  ma : Int
structure CutD where
  m : Int
  l : Int
  li : Int
structure DistD where
  n : ByteArray
  r : List Pt
  t : Int
  cs : List CutD
  x : Int
structure WaveD where
  n : ByteArray
  g : Int
structure OffD where
  n : ByteArray
  t : Int
  l : Int
  o : Bool
structure CatD where
  n : ByteArray
  f : Int
  t : Int
structure PrizeD where
  d : Int
  c : Int
  r : Int
  a : Int
/-- A course. -/
structure Crs where
  n : ByteArray
  mats : List MatD
  legs : List LegD
  dists : List DistD
  waves : List WaveD
  offs : List OffD
  cats : List CatD
  prizes : List PrizeD
  ties : List St
  fm : Int
  fs : Int
  fw : Int
  fr : Int
  fd : Int
  fee : Int
  dl : Int
/-- Where a distance's lists lie. -/
structure DLoc where
  pr : Option Addr
  cr : Nat
  pc : Option Addr
  cc : Nat
/-- Where a course's lists lie. -/
structure CLoc where
  pm : Option Addr
  cm : Nat
  pl : Option Addr
  cl : Nat
  pd : Option Addr
  cd : Nat
  pw : Option Addr
  cw : Nat
  po : Option Addr
  co : Nat
  pc : Option Addr
  cc : Nat
  pz : Option Addr
  cz : Nat
  pt : Option Addr
  ct : Nat
def MatD.cells (x : MatD) : List Value := [.string x.n, .int .i64 x.k]
def LegD.cells (x : LegD) : List Value := [.int .i64 x.f, .int .i64 x.t, .int .i64 x.mi, .int .i64 x.ma]
def CutD.cells (x : CutD) : List Value := [.int .i64 x.m, .int .i64 x.l, .int .i64 x.li]
def DistD.cells (d : DistD) (x : DLoc) : List Value := [.string d.n, .slice x.pr d.r.length x.cr, .int .i64 d.t, .slice x.pc d.cs.length x.cc, .int .i64 d.x]
def WaveD.cells (x : WaveD) : List Value := [.string x.n, .int .i64 x.g]
def OffD.cells (x : OffD) : List Value := [.string x.n, .int .i64 x.t, .int .i64 x.l, .bool x.o]
def CatD.cells (x : CatD) : List Value := [.string x.n, .int .i64 x.f, .int .i64 x.t]
def PrizeD.cells (x : PrizeD) : List Value := [.int .i64 x.d, .int .i64 x.c, .int .i64 x.r, .int .i64 x.a]
/-- Elements of k cells lie in memory, as a slice. -/
def FlatIn (w : World) (Q : Nat → Prop) (k : Nat) {α : Type} (enc : α → List Value) (l : List α) (p : Option Addr) (cap : Nat) : Prop :=
  ∃ b off, Lies w Q l.length p cap b off ∧ ∀ i (h : i < l.length) j u, (enc l[i])[j]? = some u → w.cell? ⟨b, off + i * k + j, none⟩ = some u
theorem FlatIn.keep2 {w w' : World} {Q Q' : Nat → Prop} {k : Nat} {α : Type} {enc : α → List Value} {l : List α} {p : Option Addr} {cap : Nat} (h : FlatIn w Q k enc l p cap) (hs : w.heap.size ≤ w'.heap.size) (hk : ∀ b, Q b → b < w.heap.size → Q' b ∧ w'.heap[b]? = w.heap[b]?) : FlatIn w' Q' k enc l p cap := by
  obtain ⟨b, off, h1, h2⟩ := h
  refine ⟨b, off, h1.keep2 hs hk, fun i hi j u hu => ?_⟩
  obtain ⟨_, h3, h4⟩ := h1.hb (by omega)
  exact (World.cell?_of_block (a := ⟨b, _, none⟩) (hk b h3 h4).2).trans (h2 i hi j u hu)
theorem FlatIn.bel {w w' : World} {Q : Nat → Prop} {k : Nat} {α : Type} {enc : α → List Value} {l : List α} {p : Option Addr} {cap : Nat} (h : FlatIn w Q k enc l p cap) (hb : Below w.heap.size w w') : FlatIn w' Q k enc l p cap := h.keep2 hb.size fun b h1 hl => ⟨h1, hb.block b hl⟩
/-- A distance's lists lie in memory. -/
structure DistIn (w : World) (Q : Nat → Prop) (d : DistD) (x : DLoc) : Prop where
  route : PtIn w Q (.mk 0 0 d.r) x.pr x.cr
  cuts : FlatIn w Q 3 CutD.cells d.cs x.pc x.cc
theorem DistIn.keep2 {w w' : World} {Q Q' : Nat → Prop} {d : DistD} {x : DLoc} (h : DistIn w Q d x) (hs : w.heap.size ≤ w'.heap.size) (hk : ∀ b, Q b → b < w.heap.size → Q' b ∧ w'.heap[b]? = w.heap[b]?) : DistIn w' Q' d x := ⟨h.route.keep2 hs hk, h.cuts.keep2 hs hk⟩
theorem DistIn.bel {w w' : World} {Q : Nat → Prop} {d : DistD} {x : DLoc} (h : DistIn w Q d x) (hb : Below w.heap.size w w') : DistIn w' Q d x := h.keep2 hb.size fun b h1 hl => ⟨h1, hb.block b hl⟩
/-- The distances lie in memory, as a slice. -/
def DistsIn (w : World) (Q : Nat → Prop) (l : List DistD) (p : Option Addr) (cap : Nat) : Prop :=
  ∃ es : List (DistD × DLoc), es.map (·.1) = l ∧ FlatIn w Q 5 (fun e => e.1.cells e.2) es p cap ∧ ∀ i (h : i < es.length), DistIn w Q es[i].1 es[i].2
theorem DistsIn.keep2 {w w' : World} {Q Q' : Nat → Prop} {l : List DistD} {p : Option Addr} {cap : Nat} (h : DistsIn w Q l p cap) (hs : w.heap.size ≤ w'.heap.size) (hk : ∀ b, Q b → b < w.heap.size → Q' b ∧ w'.heap[b]? = w.heap[b]?) : DistsIn w' Q' l p cap := by
  obtain ⟨es, h1, h2, h3⟩ := h
  exact ⟨es, h1, h2.keep2 hs hk, fun i hi => (h3 i hi).keep2 hs hk⟩
/-- The course's lists lie in memory. -/
structure CourseIn (w : World) (Q : Nat → Prop) (c : Crs) (x : CLoc) : Prop where
  mats : FlatIn w Q 2 MatD.cells c.mats x.pm x.cm
  legs : FlatIn w Q 4 LegD.cells c.legs x.pl x.cl
  dists : DistsIn w Q c.dists x.pd x.cd
  waves : FlatIn w Q 2 WaveD.cells c.waves x.pw x.cw
  offs : FlatIn w Q 4 OffD.cells c.offs x.po x.co
  cats : FlatIn w Q 3 CatD.cells c.cats x.pc x.cc
  prizes : FlatIn w Q 4 PrizeD.cells c.prizes x.pz x.cz
  ties : SsIn w Q c.ties x.pt x.ct
theorem CourseIn.keep2 {w w' : World} {Q Q' : Nat → Prop} {c : Crs} {x : CLoc} (h : CourseIn w Q c x) (hs : w.heap.size ≤ w'.heap.size) (hk : ∀ b, Q b → b < w.heap.size → Q' b ∧ w'.heap[b]? = w.heap[b]?) : CourseIn w' Q' c x :=
  ⟨h.mats.keep2 hs hk, h.legs.keep2 hs hk, h.dists.keep2 hs hk, h.waves.keep2 hs hk, h.offs.keep2 hs hk, h.cats.keep2 hs hk, h.prizes.keep2 hs hk, h.ties.keep2 hs hk⟩
theorem CourseIn.bel {w w' : World} {Q : Nat → Prop} {c : Crs} {x : CLoc} (h : CourseIn w Q c x) (hb : Below w.heap.size w w') : CourseIn w' Q c x := h.keep2 hb.size fun b h1 hl => ⟨h1, hb.block b hl⟩
/-- The course as Go has it: its cells. -/
def cellsC (c : Crs) (x : CLoc) : List Value := [.string c.n, .slice x.pm c.mats.length x.cm, .slice x.pl c.legs.length x.cl, .slice x.pd c.dists.length x.cd, .slice x.pw c.waves.length x.cw, .slice x.po c.offs.length x.co, .slice x.pc c.cats.length x.cc, .slice x.pz c.prizes.length x.cz, .slice x.pt c.ties.length x.ct, .int .i64 c.fm, .int .i64 c.fs, .int .i64 c.fw, .int .i64 c.fr, .int .i64 c.fd, .int .i64 c.fee, .int .i64 c.dl]
def courseV (c : Crs) (x : CLoc) : Value := .agg (cellsC c x).toArray
def distV (d : DistD) (x : DLoc) : Value := .agg (d.cells x).toArray

/-- The lists of a distance are not too long, its route not too deep. -/
def limD (d : DistD) : Bool := decide (d.cs.length ≤ 64) && (fitL 0 256 (d.r.map toCd)).1
def limE (c : Crs) : Bool := decide (c.mats.length ≤ 40) && (decide (c.legs.length ≤ 512) && (decide (c.dists.length ≤ 8) && (decide (c.waves.length ≤ 32) && (decide (c.offs.length ≤ 32) && (decide (c.cats.length ≤ 32) && (decide (c.prizes.length ≤ 32) && c.dists.all limD))))))
set_option maxHeartbeats 1000000 in
theorem limD_any {w : World} {Q : Nat → Prop} {d : DistD} {x : DLoc} (h : DistIn w Q d x) :
    Calls Tryz.prog 57 #[distV d x] w fun e w' => e = .returned (.bool (limD d)) ∧ Below w.heap.size w w' := by
  have hA := (Below.refl w.heap.size w).alloc (Nat.le_refl _) (.cells #[.string d.n, .slice x.pr d.r.length x.cr, .int .i64 d.t, .slice x.pc d.cs.length x.cc, .int .i64 d.x] 66)
  have HL := Lib.hid (limited_part (h.route.bel hA))
  have HA := Lib.hid hA
  clear h hA
  unfold limD
  unfold distV DistD.cells
  simp only [Pt.ps] at HL
  generalize (fitL 0 256 (d.r.map toCd)).1 = T at *
  generalize d.r.length = n1 at *
  by_cases h1 : d.cs.length ≤ 64
  · have h2 : (d.cs.length : Int) ≤ 64 := by omega
    generalize d.cs.length = n2 at *
    go_enter Tryz.func57, Tryz.ntmps57
    go_wp2_with (go_at_call 58; (with_reducible refine HL.out.mono ?_); rintro e w1 ⟨rfl, hb⟩; have HB := Lib.hid (HA.out.trans (hb.mono HA.out.size)); clear hb)
    go_ret
    exact ⟨by simp [h1], HB.out⟩
  · have h2 : ¬ (d.cs.length : Int) ≤ 64 := by omega
    generalize d.cs.length = n2 at *
    go_enter Tryz.func57, Tryz.ntmps57
    go_wp2_with fail
    go_ret
    exact ⟨by simp, HA.out⟩
theorem limDs_any {w : World} {Q : Nat → Prop} {l : List DistD} {p : Option Addr} {cap : Nat} (h : DistsIn w Q l p cap) :
    Calls Tryz.prog 56 #[.slice p l.length cap, .func (Fn.func 57) #[] #[]] w fun e w' => e = .returned (.bool (l.all limD)) ∧ Below w.heap.size w w' := by
  obtain ⟨es, rfl, ⟨b, off, hL, hc⟩, hd⟩ := h
  rw [List.length_map, List.all_map]
  have hg : ∀ j (h : j < es.length), es[j]? = some es[j] := fun j h => List.getElem?_eq_getElem h
  let z : DistD × DLoc := ⟨⟨⟨#[]⟩, [], 0, [], 0⟩, ⟨none, 0, none, 0⟩⟩
  have hz : ∀ j (h : j < es.length), es.getD j z = es[j] := fun j h => by simp [List.getD, h]
  refine allB_dist (fun e => limD e.1) 57 #[] (enters_of Tryz.func57 (by kernel_rfl) rfl) es (fun j => .string (es.getD j z).1.n) (fun j => .slice (es.getD j z).2.pr (es.getD j z).1.r.length (es.getD j z).2.cr) (fun j => .int .i64 (es.getD j z).1.t) (fun j => .slice (es.getD j z).2.pc (es.getD j z).1.cs.length (es.getD j z).2.cc) (fun j => .int .i64 (es.getD j z).1.x) p b off cap
    (fun hne => (hL.hb (by simpa using hne)).1) hL.hl w (fun hne => (hL.hb (by simpa using hne)).2.2) (fun j hj => ?_) (fun W j hj hW => ?_)
  · rw [hz j hj]
    exact ⟨hc j hj 0 _ rfl, hc j hj 1 _ rfl, hc j hj 2 _ rfl, hc j hj 3 _ rfl, hc j hj 4 _ rfl⟩
  · rw [hz j hj]
    exact limD_any ((hd j hj).bel hW)
set_option maxHeartbeats 4000000 in
theorem limited_course {w : World} {Q : Nat → Prop} {c : Crs} {x : CLoc} (h : CourseIn w Q c x) :
    Calls Tryz.prog 37 #[courseV c x] w fun e w' => e = .returned (.bool (limE c)) ∧ Below w.heap.size w w' := by
  have hA := (Below.refl w.heap.size w).alloc (Nat.le_refl _) (.cells (cellsC c x).toArray 33)
  have HD := Lib.hid (limDs_any (h.dists.keep2 hA.size fun b hq hl => ⟨hq, hA.block b hl⟩))
  have HA := Lib.hid hA
  clear h hA
  unfold limE
  unfold courseV
  unfold cellsC at *
  generalize c.dists.all limD = T at *
  generalize c.ties.length = n9 at *
  by_cases h1 : c.mats.length ≤ 40
  · by_cases h2 : c.legs.length ≤ 512
    · by_cases h3 : c.dists.length ≤ 8
      · by_cases h4 : c.waves.length ≤ 32
        · by_cases h5 : c.offs.length ≤ 32
          · by_cases h6 : c.cats.length ≤ 32
            · by_cases h7 : c.prizes.length ≤ 32
              · have k1 : (c.mats.length : Int) ≤ 40 := by omega
                have k2 : (c.legs.length : Int) ≤ 512 := by omega
                have k3 : (c.dists.length : Int) ≤ 8 := by omega
                have k4 : (c.waves.length : Int) ≤ 32 := by omega
                have k5 : (c.offs.length : Int) ≤ 32 := by omega
                have k6 : (c.cats.length : Int) ≤ 32 := by omega
                have k7 : (c.prizes.length : Int) ≤ 32 := by omega
                go_enter Tryz.func37, Tryz.ntmps37
                go_wp2_with (go_at_call 56; (with_reducible refine HD.out.mono ?_); rintro e w1 ⟨rfl, hb⟩; have HB := Lib.hid (HA.out.trans (hb.mono HA.out.size)); clear hb)
                go_ret
                exact ⟨by simp [h1, h2, h3, h4, h5, h6, h7], HB.out⟩
              · have k1 : (c.mats.length : Int) ≤ 40 := by omega
                have k2 : (c.legs.length : Int) ≤ 512 := by omega
                have k3 : (c.dists.length : Int) ≤ 8 := by omega
                have k4 : (c.waves.length : Int) ≤ 32 := by omega
                have k5 : (c.offs.length : Int) ≤ 32 := by omega
                have k6 : (c.cats.length : Int) ≤ 32 := by omega
                have k7 : ¬ (c.prizes.length : Int) ≤ 32 := by omega
                go_enter Tryz.func37, Tryz.ntmps37
                go_wp2_with fail
                go_ret
                exact ⟨by simp, HA.out⟩
            · have k1 : (c.mats.length : Int) ≤ 40 := by omega
              have k2 : (c.legs.length : Int) ≤ 512 := by omega
              have k3 : (c.dists.length : Int) ≤ 8 := by omega
              have k4 : (c.waves.length : Int) ≤ 32 := by omega
              have k5 : (c.offs.length : Int) ≤ 32 := by omega
              have k6 : ¬ (c.cats.length : Int) ≤ 32 := by omega
              go_enter Tryz.func37, Tryz.ntmps37
              go_wp2_with fail
              go_ret
              exact ⟨by simp, HA.out⟩
          · have k1 : (c.mats.length : Int) ≤ 40 := by omega
            have k2 : (c.legs.length : Int) ≤ 512 := by omega
            have k3 : (c.dists.length : Int) ≤ 8 := by omega
            have k4 : (c.waves.length : Int) ≤ 32 := by omega
            have k5 : ¬ (c.offs.length : Int) ≤ 32 := by omega
            go_enter Tryz.func37, Tryz.ntmps37
            go_wp2_with fail
            go_ret
            exact ⟨by simp, HA.out⟩
        · have k1 : (c.mats.length : Int) ≤ 40 := by omega
          have k2 : (c.legs.length : Int) ≤ 512 := by omega
          have k3 : (c.dists.length : Int) ≤ 8 := by omega
          have k4 : ¬ (c.waves.length : Int) ≤ 32 := by omega
          go_enter Tryz.func37, Tryz.ntmps37
          go_wp2_with fail
          go_ret
          exact ⟨by simp, HA.out⟩
      · have k1 : (c.mats.length : Int) ≤ 40 := by omega
        have k2 : (c.legs.length : Int) ≤ 512 := by omega
        have k3 : ¬ (c.dists.length : Int) ≤ 8 := by omega
        go_enter Tryz.func37, Tryz.ntmps37
        go_wp2_with fail
        go_ret
        exact ⟨by simp, HA.out⟩
    · have k1 : (c.mats.length : Int) ≤ 40 := by omega
      have k2 : ¬ (c.legs.length : Int) ≤ 512 := by omega
      go_enter Tryz.func37, Tryz.ntmps37
      go_wp2_with fail
      go_ret
      exact ⟨by simp, HA.out⟩
  · have k1 : ¬ (c.mats.length : Int) ≤ 40 := by omega
    go_enter Tryz.func37, Tryz.ntmps37
    go_wp2_with fail
    go_ret
    exact ⟨by simp, HA.out⟩
end Go.Proofs.YtabdgnigmlpeaaaGreatDoor
