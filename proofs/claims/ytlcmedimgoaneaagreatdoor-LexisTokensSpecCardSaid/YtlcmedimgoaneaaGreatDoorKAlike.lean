/- The reference's Alike and Few; Join of no tokens. -/
import Derived.Test.YtlcmedimgoaneaaGreatDoorKSame
import Derived.Test.YtlcmedimgoaneaaGreatDoorKRem
namespace Go.Proofs.YtlcmedimgoaneaaGreatDoor
open Go.RowKit

theorem ktT_eq (x y : Tok) : ktT x = ktT y ↔ x.k = y.k ∧ x.t = y.t := by
  unfold ktT
  simp only [Prod.mk.injEq]
theorem S_beq (a b : Bs) : ((S a).toList == (S b).toList) = decide (a = b) := by
  rw [S_toList, S_toList]
  by_cases h : a = b
  · subst h; simp
  · rw [decide_eq_false h, beq_eq_false_iff_ne]; exact h
set_option maxHeartbeats 1000000 in
set_option maxRecDepth 100000 in
theorem alike_any (p q : Option Addr) (cap cap' : Nat) (a b : List Tok) (w : World) (B B' : Nat) (ha : TAt w B p a) (hb : TAt w B' q b) :
    Calls Tryz.prog 21 #[.slice p a.length cap, .slice q b.length cap'] w fun e w' => e = .returned (.bool (decide (a.map ktT = b.map ktT))) ∧ Below w.heap.size w w' := by
  have hla := ha.len
  have hlb := hb.len
  by_cases hlen : a.length = b.length
  · have HL := Lib.hid hlen
    rw [← hlen]
    clear hlen hlb
    go_enter Tryz.func21, Tryz.ntmps21
    go_wp2_with fail
    go_loopw [5] (fun i wr => ∃ k : Nat, k ≤ a.length ∧ i = .int .i64 k ∧ Hid ((a.map ktT).take k = (b.map ktT).take k) ∧ Below w.heap.size w wr) (fun i _ => a.length - (intOf i).toNat)
    case atStart => exact ⟨0, Nat.zero_le _, rfl, Lib.hid rfl, Below.refl _ _⟩
    case round =>
      obtain ⟨k, hk, rfl, HNO, hbel⟩ := hrel
      have HBEL := Lib.hid hbel
      by_cases hlt : k < a.length
      · have hlt2 : k < b.length := by have := HL.out; omega
        obtain ⟨b1, o1, rfl, _, _, hc⟩ := (ha.bel hbel (Nat.le_refl _)).at' (by intro h; simp [h] at hlt)
        obtain ⟨b2, o2, rfl, _, _, hd⟩ := (hb.bel hbel (Nat.le_refl _)).at' (by intro h; simp [h] at hlt2)
        obtain ⟨c1, c2, c3⟩ := hc k hlt
        obtain ⟨d1, d2, d3⟩ := hd k hlt2
        have HT := Lib.hid (take_eq (a.map ktT) (b.map ktT) k (by simpa using hlt) (by simpa using hlt2))
        have HN := Lib.hid (show a.map ktT = b.map ktT → ktT a[k] = ktT b[k] from fun h => by
          have h1 : (a.map ktT)[k]? = (b.map ktT)[k]? := by rw [h]
          simpa [List.getElem?_map, List.getElem?_eq_getElem hlt, List.getElem?_eq_getElem hlt2] using h1)
        have HT : Hid ((a.map ktT).take k = (b.map ktT).take k → ktT a[k] = ktT b[k] → (a.map ktT).take (k + 1) = (b.map ktT).take (k + 1)) := Lib.hid fun h1 h2 => HT.out h1 (by simpa using h2)
        clear hc hd hbel ha hb
        generalize a[k] = s at *
        generalize b[k] = u at *
        rw [ktT_eq] at HT HN
        clear c3 d3
        by_cases hx : s.k = u.k
        · by_cases hy : s.t = u.t
          · have HX := Lib.hid (And.intro hx hy)
            rw [hx] at c1
            rw [hy] at c2
            clear hx hy
            go_wp2_with fail
            go_quiet (fail)
            go_wp2_with fail
            go_roundw
            case rel => exact ⟨k + 1, by omega, by go_num, Lib.hid (HT.out HNO.out HX.out), below_drewN HBEL.out _⟩
            case measure => simp [intOf]; omega
          · have hs : ((S s.t).toList == (S u.t).toList) = false := by rw [S_beq]; exact decide_eq_false hy
            have hs2 : ((S s.t).toList != (S u.t).toList) = true := by rw [bne, hs]; rfl
            have HX := Lib.hid hy
            rw [hx] at c1
            clear hx hy
            go_wp2_with fail
            go_quiet (fail)
            go_wp2_with fail
            go_ret
            exact ⟨ret_bool (decide_eq_false fun h => HX.out (HN.out h).2).symm, below_drewN HBEL.out _⟩
        · have hs : (s.k == u.k) = false := beq_eq_false_iff_ne.2 hx
          have HX := Lib.hid hx
          go_wp2_with fail
          go_quiet (fail)
          go_wp2_with fail
          go_ret
          exact ⟨ret_bool (decide_eq_false fun h => HX.out (HN.out h).1).symm, below_drewN HBEL.out _⟩
      · clear hbel
        go_wp2_with fail
        go_ret
        exact ⟨ret_bool (decide_eq_true (by have := HNO.out; have h2 := HL.out; rwa [List.take_of_length_le (by simp; omega), List.take_of_length_le (by simp; omega)] at this)).symm, HBEL.out⟩
  · have HN := Lib.hid (decide_eq_false (fun h : a.map ktT = b.map ktT => hlen (by have := congrArg List.length h; simpa using this)))
    have hlen' : ((a.length : Int) == (b.length : Int)) = false := beq_eq_false_iff_ne.2 (by omega)
    go_enter Tryz.func21, Tryz.ntmps21
    go_wp2_with fail
    go_ret
    exact ⟨ret_bool HN.out.symm, Below.refl _ _⟩

/-- How long tokens are, for the statements. -/
def sumT (l : List Tok) : Nat := (l.map fun x => x.t.length + 1).sum
theorem sumT_take {l : List Tok} {j : Nat} (h : j < l.length) : sumT (l.take (j + 1)) = sumT (l.take j) + (l[j].t.length + 1) := by
  unfold sumT
  rw [List.take_succ_eq_append_getElem h, List.map_append, List.sum_append]; simp
theorem sumT_app (a b : List Tok) : sumT (a ++ b) = sumT a + sumT b := by unfold sumT; simp
theorem sumT_le (l : List Tok) (j : Nat) : sumT (l.take j) ≤ sumT l := by
  conv => rhs; rw [← List.take_append_drop j l]
  rw [sumT_app]; omega
theorem sumT_len : ∀ l : List Tok, l.length ≤ sumT l ∧ ∀ x ∈ l, x.t.length ≤ sumT l
  | [] => ⟨Nat.le_refl _, by simp⟩
  | y :: l => by
    obtain ⟨h1, h2⟩ := sumT_len l
    have e : sumT (y :: l) = y.t.length + 1 + sumT l := by unfold sumT; simp
    rw [e, List.length_cons]
    refine ⟨by omega, fun x hx => ?_⟩
    rcases List.mem_cons.1 hx with rfl | hx
    · omega
    · have := h2 x hx; omega
set_option maxHeartbeats 1000000 in
set_option maxRecDepth 100000 in
theorem few_any (p : Option Addr) (cap : Nat) (a : List Tok) (w : World) (B : Nat) (ha : TAt w B p a) :
    Calls Tryz.prog 16 #[.slice p a.length cap] w fun e w' => e = .returned (.bool (decide (sumT a ≤ 3000))) ∧ Below w.heap.size w w' := by
  have hla := ha.len
  go_enter Tryz.func16, Tryz.ntmps16
  go_wp2_with fail
  go_loopw [3, 4] (fun n i wr => ∃ (k m : Nat), k ≤ a.length ∧ i = .int .i64 k ∧ n = .int .i64 m ∧ m ≤ 140737488360000 ∧ Hid (m = sumT (a.take k)) ∧ Below w.heap.size w wr) (fun _ i _ => a.length - (intOf i).toNat)
  case atStart => exact ⟨0, 0, Nat.zero_le _, rfl, rfl, by decide, Lib.hid rfl, Below.refl _ _⟩
  case round =>
    obtain ⟨k, m, hk, rfl, rfl, hm, HNO, hbel⟩ := hrel
    have HBEL := Lib.hid hbel
    have HLE := Lib.hid (sumT_le a k)
    by_cases hlt : k < a.length
    · have hki : (k : Int) < (a.length : Int) := by omega
      by_cases h3 : m ≤ 3000
      · have h3i : (m : Int) ≤ 3000 := by omega
        obtain ⟨b1, o1, rfl, _, _, hc⟩ := (ha.bel hbel (Nat.le_refl _)).at' (by intro h; simp [h] at hlt)
        obtain ⟨c1, c2, c3⟩ := hc k hlt
        have htl := ha.tl a[k] (List.getElem_mem _)
        have HS := Lib.hid (sumT_take hlt)
        clear hc hbel ha
        generalize a[k] = s at *
        have hsz := S_size s.t
        go_wp2_with fail
        go_roundw
        case rel => exact ⟨k + 1, m + (s.t.length + 1), by omega, by go_num, by go_num, by omega, Lib.hid (by rw [HS.out, ← HNO.out]), HBEL.out⟩
        case measure => simp [intOf]; omega
      · have h3i : ¬ (m : Int) ≤ 3000 := by omega
        clear hbel
        go_wp2_with fail
        go_ret
        exact ⟨ret_bool (by rw [decide_eq_false (by have := HLE.out; have := HNO.out; omega)]), HBEL.out⟩
    · have hki : ¬ (k : Int) < (a.length : Int) := by omega
      have HEQ : Hid (m = sumT a) := Lib.hid (by have := HNO.out; rwa [List.take_of_length_le (by omega)] at this)
      clear hbel
      go_wp2_with fail
      go_ret
      exact ⟨ret_bool (by have := HEQ.out; by_cases h : m ≤ 3000
                          · rw [decide_eq_true (by omega), decide_eq_true (by omega)]
                          · rw [decide_eq_false (by omega), decide_eq_false (by omega)]), HBEL.out⟩
set_option maxRecDepth 100000 in
theorem join0_any (p : Option Addr) (cap : Nat) (w : World) : Calls Tryz.prog 17 #[.slice p 0 cap] w fun e w' => e = .returned (.tuple #[.slice none 0 0, .int .i64 1]) ∧ Below w.heap.size w w' := by
  go_enter Tryz.func17, Tryz.ntmps17
  go_wp2_with fail
  go_ret2
  exact ⟨rfl, Below.refl _ _⟩
end Go.Proofs.YtlcmedimgoaneaaGreatDoor
