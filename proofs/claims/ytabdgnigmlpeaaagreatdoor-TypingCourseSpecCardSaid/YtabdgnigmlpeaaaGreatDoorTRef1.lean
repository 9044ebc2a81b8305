/- The specification: how many conditions; valid ones. -/
import Derived.Test.YtabdgnigmlpeaaaGreatDoorTBase
import Derived.Test.YtabdgnigmlpeaaaGreatDoorTMem
import Derived.BigQuiet
namespace Go.Proofs.YtabdgnigmlpeaaaGreatDoor
open Go.RowKit

theorem cntCs_bound (d M : Nat) (h : ∀ c : Cd, cntC d c ≤ M) : ∀ (l : List Cd) (n : Nat), cntCs d n l ≤ max n (256 + M)
  | [], n => by rw [cntCs]; omega
  | c :: l, n => by
    rw [cntCs]
    have hc := h c
    split
    · have := cntCs_bound d M h l (n + cntC d c)
      omega
    · omega
theorem cntC_bound : ∀ (k d : Nat), d + k = 17 → ∀ c : Cd, cntC d c ≤ 1000 + 300 * k
  | 0, d, h, .mk _ _ _ ps => by rw [cntC, if_pos (by omega)]; omega
  | k + 1, d, h, .mk _ _ _ ps => by
    rw [cntC]
    split
    · omega
    · have := cntCs_bound (d + 1) (1000 + 300 * k) (cntC_bound k (d + 1) (by omega)) ps 1
      omega
theorem cntC_max (d : Nat) (hd : d ≤ 17) (c : Cd) : cntC d c ≤ 10000 := by have := cntC_bound (17 - d) d (by omega) c; omega

set_option maxHeartbeats 4000000 in
set_option maxRecDepth 100000 in
theorem rcount_any {w0 : World} {Q : Nat → Prop} {c : Cd} {p : Option Addr} {cap : Nat} (h : CdIn w0 Q c p cap) : ∀ (W : World) (d : Nat), Below w0.heap.size w0 W → d ≤ 17 →
    Calls Tryz.prog 45 #[cV c p cap, .int .i64 (d : Int)] W fun e w' => e = .returned (.int .i64 (cntC d c : Int)) ∧ Below W.heap.size W w' := by
  induction h with
  | mk k v n ps p cap b off P C hl hc hc2 hp hb hcell hsub ih =>
    intro W d hW hd
    show Calls Tryz.prog 45 #[.agg #[.int .i64 k, .int .i64 v, .int .i64 n, .slice p ps.length cap], .int .i64 (d : Int)] W _
    rw [cntC]
    have hA := (Below.refl W.heap.size W).alloc (Nat.le_refl _) (.cells #[.int .i64 k, .int .i64 v, .int .i64 n, .slice p ps.length cap] 40)
    have HA := Lib.hid hA
    by_cases h16 : 16 < d
    · rw [if_pos h16]
      have h16i : (16 : Int) < (d : Int) := by omega
      clear ih hsub hcell hb h16 hW
      go_enter Tryz.func45, Tryz.ntmps45
      go_wp2_with fail
      go_ret
      exact ⟨rfl, HA.out⟩
    · rw [if_neg h16]
      have h16i : ¬ (16 : Int) < (d : Int) := by omega
      obtain ⟨T, hT⟩ : ∃ T, cntCs (d + 1) 1 ps = T := ⟨_, rfl⟩
      rw [hT]
      have H0 : Hid (cntCs (d + 1) 1 (ps.drop 0) = T) := Lib.hid (by rw [List.drop_zero]; exact hT)
      have HC3 : Hid (∀ w', Below (W.alloc (.cells #[.int .i64 k, .int .i64 v, .int .i64 n, .slice p ps.length cap] 40)).heap.size (W.alloc (.cells #[.int .i64 k, .int .i64 v, .int .i64 n, .slice p ps.length cap] 40)) w' → w'.cell? ⟨W.heap.size, 3, none⟩ = some (.slice p ps.length cap)) := Lib.hid fun w' hb => keepc hb (by simp [go_sem])
      have HB0 := Lib.hid (Below.refl (W.alloc (.cells #[.int .i64 k, .int .i64 v, .int .i64 n, .slice p ps.length cap] 40)).heap.size (W.alloc (.cells #[.int .i64 k, .int .i64 v, .int .i64 n, .slice p ps.length cap] 40)))
      have HE : Hid (∀ w', Below (W.alloc (.cells #[.int .i64 k, .int .i64 v, .int .i64 n, .slice p ps.length cap] 40)).heap.size (W.alloc (.cells #[.int .i64 k, .int .i64 v, .int .i64 n, .slice p ps.length cap] 40)) w' → ∀ j (h : j < ps.length), (p = some ⟨b, off, none⟩ ∧ w'.cell? ⟨b, off + j * 4, none⟩ = some (.int .i64 ps[j].k) ∧ w'.cell? ⟨b, off + j * 4 + 1, none⟩ = some (.int .i64 ps[j].v) ∧ w'.cell? ⟨b, off + j * 4 + 2, none⟩ = some (.int .i64 ps[j].n) ∧ w'.cell? ⟨b, off + j * 4 + 3, none⟩ = some (.slice (P j) ps[j].ps.length (C j))) ∧
          Calls Tryz.prog 45 #[cV ps[j] (P j) (C j), .int .i64 ((d : Int) + 1)] w' fun e w2 => e = .returned (.int .i64 (cntC (d + 1) ps[j] : Int)) ∧ Below w'.heap.size w' w2) := Lib.hid fun w' hb' j hj => by
        have hbb := hW.trans ((hA.trans (hb'.mono hA.size)).mono hW.size)
        obtain ⟨a0, a1, a2, a3⟩ := hcell j hj
        have := ih j hj w' (d + 1) hbb (by omega)
        rw [show ((d + 1 : Nat) : Int) = (d : Int) + 1 by omega] at this
        exact ⟨⟨(hb (by rintro rfl; simp at hj)).1, keepc hbb a0, keepc hbb a1, keepc hbb a2, keepc hbb a3⟩, this⟩
      clear ih hsub hcell hb h16 hW hT hA
      go_enter Tryz.func45, Tryz.ntmps45
      go_wp2_with fail
      go_loopw [5, 6] (fun nv i wr => ∃ j m : Nat, j ≤ ps.length ∧ i = .int .i64 j ∧ nv = .int .i64 m ∧ Hid (cntCs (d + 1) m (ps.drop j) = T) ∧ Hid (m ≤ 20000) ∧ Hid (Below (W.alloc (.cells #[.int .i64 k, .int .i64 v, .int .i64 n, .slice p ps.length cap] 40)).heap.size (W.alloc (.cells #[.int .i64 k, .int .i64 v, .int .i64 n, .slice p ps.length cap] 40)) wr)) (fun _ i _ => ps.length - (intOf i).toNat)
      case atStart => exact ⟨0, 1, Nat.zero_le _, rfl, rfl, H0, Lib.hid (by omega), HB0⟩
      case round =>
        obtain ⟨j, m, hj, rfl, rfl, HI, HM, HB⟩ := hrel
        clear H0 HB0
        have y3 := HC3.out _ HB.out
        have hm := HM.out
        by_cases hlt : j < ps.length
        · have hji : (j : Int) < (ps.length : Int) := by omega
          by_cases hm2 : m ≤ 256
          · have hmi : (m : Int) ≤ 256 := by omega
            obtain ⟨⟨rfl, a0, a1, a2, a3⟩, hcall⟩ := HE.out _ HB.out j hlt
            have HCC := Lib.hid hcall
            have HI2 : Hid (cntCs (d + 1) (m + cntC (d + 1) ps[j]) (ps.drop (j + 1)) = T) := Lib.hid (by
              have := HI.out
              rw [(List.getElem_cons_drop hlt).symm, cntCs, if_pos hm2] at this
              exact this)
            have hmax : cntC (d + 1) ps[j] ≤ 10000 := cntC_max (d + 1) (by omega) _
            clear hcall HE HI HC3
            unfold cV at HCC
            generalize cntC (d + 1) ps[j] = x at *
            generalize ps[j].k = x1 at *
            generalize ps[j].v = x2 at *
            generalize ps[j].n = x3 at *
            generalize ps[j].ps.length = x4 at *
            go_wp2_with (go_at_call 45; (with_reducible refine HCC.out.mono ?_); rintro e w2 ⟨rfl, hb⟩; have HB2 := Lib.hid (HB.out.trans (hb.mono HB.out.size)); clear hb)
            go_round
            case rel => exact ⟨j + 1, m + x, by omega, by go_num, by go_num, HI2, Lib.hid (by omega), HB2⟩
            case measure => simp [intOf]; omega
          · have hmi : ¬ (m : Int) ≤ 256 := by omega
            have hT : T = m := by
              have := HI.out
              rw [(List.getElem_cons_drop hlt).symm, cntCs, if_neg hm2] at this
              exact this.symm
            subst hT
            clear HE HI HC3 HM
            go_wp2_with fail
            go_ret
            exact ⟨rfl, HA.out.trans (HB.out.mono HA.out.size)⟩
        · have hji : ¬ (j : Int) < (ps.length : Int) := by omega
          have hT : T = m := by
            have := HI.out
            rw [List.drop_of_length_le (by omega), cntCs] at this
            exact this.symm
          subst hT
          clear HE HI HC3 HM
          go_wp2_with fail
          go_ret
          exact ⟨rfl, HA.out.trans (HB.out.mono HA.out.size)⟩

def fewC (c : Cd) : Bool := decide (cntC 0 c ≤ 300)
theorem fewCond_any {w : World} {Q : Nat → Prop} {c : Cd} {p : Option Addr} {cap : Nat} (h : CdIn w Q c p cap) :
    Calls Tryz.prog 14 #[cV c p cap] w fun e w' => e = .returned (.bool (fewC c)) ∧ Below w.heap.size w w' := by
  have hA := (Below.refl w.heap.size w).alloc (Nat.le_refl _) (.cells #[.int .i64 c.k, .int .i64 c.v, .int .i64 c.n, .slice p c.ps.length cap] 40)
  have H : Hid (Calls Tryz.prog 45 #[cV c p cap, .int .i64 0] (w.alloc (.cells #[.int .i64 c.k, .int .i64 c.v, .int .i64 c.n, .slice p c.ps.length cap] 40)) fun e w' => e = .returned (.int .i64 (cntC 0 c : Int)) ∧ Below w.heap.size w w') := Lib.hid ((rcount_any h _ 0 hA (by omega)).mono fun e w' hr => ⟨hr.1, hA.trans (hr.2.mono hA.size)⟩)
  clear h hA
  unfold fewC
  unfold cV at *
  generalize cntC 0 c = x at *
  generalize c.k = x1 at *
  generalize c.v = x2 at *
  generalize c.n = x3 at *
  generalize c.ps.length = x4 at *
  by_cases hx : x ≤ 300
  · rw [decide_eq_true hx]
    have hxi : (x : Int) ≤ 300 := by omega
    go_enter Tryz.func14, Tryz.ntmps14
    go_wp2_with (go_at_call 45; (with_reducible refine H.out.mono ?_); rintro e w2 ⟨rfl, hb⟩; have HB2 := Lib.hid hb; clear hb)
    go_ret
    exact ⟨by simp, HB2.out⟩
  · rw [decide_eq_false hx]
    have hxi : ¬ (x : Int) ≤ 300 := by omega
    go_enter Tryz.func14, Tryz.ntmps14
    go_wp2_with (go_at_call 45; (with_reducible refine H.out.mono ?_); rintro e w2 ⟨rfl, hb⟩; have HB2 := Lib.hid hb; clear hb)
    go_ret
    exact ⟨by simp [hxi], HB2.out⟩
end Go.Proofs.YtabdgnigmlpeaaaGreatDoor
