/- The comparisons of tokens and of problems. -/
import Derived.Test.YtlcmedimgoaneaaGreatDoorKRow
import Derived.WalkSmall
namespace Go.Proofs.YtlcmedimgoaneaaGreatDoor
open Go.RowKit

theorem Tok.eq_iff (x y : Tok) : x = y ↔ x.k = y.k ∧ x.t = y.t ∧ x.a = y.a := by
  constructor
  · rintro rfl; exact ⟨rfl, rfl, rfl⟩
  · rintro ⟨h1, h2, h3⟩
    cases x; cases y
    cases h1; cases h2; cases h3; rfl
instance : DecidableEq Tok := fun x y => decidable_of_iff _ (Tok.eq_iff x y).symm
theorem neTok (x y : Tok) (w : World) : (binOp .neq 38 (.agg #[.int .i64 x.k, .string (S x.t), .int .i64 x.a]) (.agg #[.int .i64 y.k, .string (S y.t), .int .i64 y.a])).run Tryz.prog w = .ok (.bool (!decide (x = y))) w := by
  have hS : Tryz.prog.underlying 38 = some (.struct (Tryz.prog.fieldsOf 38)) := by kernel_rfl
  have hp : Tryz.prog.stoodInHeld 38 = false := by kernel_rfl
  rw [run_neq_struct, show (10000 : Nat) = 9999 + 1 from rfl, run_equalIn_agg w 9999 38 _ _ hS hp]
  simp only [Program.fieldsOf, Tryz.underlying38, Tok.eq_iff]
  have u3 := Tryz.underlying3
  have u4 := Tryz.underlying9
  go_simp
  simp only [S_toList]
  by_cases h1 : x.k = y.k <;> by_cases h2 : x.t = y.t <;> by_cases h3 : x.a = y.a <;> simp [h1, h2, h3]
theorem neProb (a b : Nat) (w : World) : (binOp .neq 41 (.agg #[.int .i64 a, .int .i64 50]) (.agg #[.int .i64 b, .int .i64 50])).run Tryz.prog w = .ok (.bool (!decide (a = b))) w := by
  have hS : Tryz.prog.underlying 41 = some (.struct (Tryz.prog.fieldsOf 41)) := by kernel_rfl
  have hp : Tryz.prog.stoodInHeld 41 = false := by kernel_rfl
  rw [run_neq_struct, show (10000 : Nat) = 9999 + 1 from rfl, run_equalIn_agg w 9999 41 _ _ hS hp]
  simp only [Program.fieldsOf, Tryz.underlying41]
  have u3 := Tryz.underlying3
  have u4 := Tryz.underlying26
  go_simp
  by_cases h1 : a = b
  · simp [h1]
  · have h2 : ¬ ((a : Int) = b) := by omega
    simp [h1, h2]
theorem take_eq {α : Type} (a b : List α) (k : Nat) (ha : k < a.length) (hb : k < b.length) (h : a.take k = b.take k) (h2 : a[k] = b[k]) : a.take (k + 1) = b.take (k + 1) := by
  rw [List.take_succ_eq_append_getElem ha, List.take_succ_eq_append_getElem hb, h, h2]

set_option maxHeartbeats 1000000 in
set_option maxRecDepth 100000 in
theorem same_any (p q : Option Addr) (cap cap' : Nat) (a b : List Tok) (w : World) (B B' : Nat) (ha : TAt w B p a) (hb : TAt w B' q b) :
    Calls Tryz.prog 14 #[.slice p a.length cap, .slice q b.length cap'] w fun e w' => e = .returned (.bool (decide (a = b))) ∧ Below w.heap.size w w' := by
  have hla := ha.len
  have hlb := hb.len
  by_cases hlen : a.length = b.length
  · have HL := Lib.hid hlen
    rw [← hlen]
    clear hlen hlb
    go_enter Tryz.func14, Tryz.ntmps14
    go_wp2_with fail
    go_loopw [5] (fun i wr => ∃ k : Nat, k ≤ a.length ∧ i = .int .i64 k ∧ Hid (a.take k = b.take k) ∧ Below w.heap.size w wr) (fun i _ => a.length - (intOf i).toNat)
    case atStart => exact ⟨0, Nat.zero_le _, rfl, Lib.hid rfl, Below.refl _ _⟩
    case round =>
      obtain ⟨k, hk, rfl, HNO, hbel⟩ := hrel
      have HBEL := Lib.hid hbel
      by_cases hlt : k < a.length
      · have hlt2 : k < b.length := by have := HL.out; omega
        obtain ⟨b1, o1, rfl, _, _, hc⟩ := (ha.bel hbel (Nat.le_refl _)).at' (by intro h; simp [h] at hlt)
        obtain ⟨b2, o2, rfl, _, _, hd⟩ := (hb.bel hbel (Nat.le_refl _)).at' (by intro h; simp [h] at hlt2)
        obtain ⟨c1, c2, c3⟩ := hc k hlt
        obtain ⟨d1, d2, d3⟩ := hd k hlt2
        have HT := Lib.hid (take_eq a b k hlt hlt2)
        have HN := Lib.hid (show a = b → a[k] = b[k] from fun h => by subst h; rfl)
        clear hc hd hbel ha hb
        generalize a[k] = s at *
        generalize b[k] = u at *
        have hne := fun w => neTok s u w
        by_cases hx : s = u
        · rw [decide_eq_true hx] at hne
          have HX := Lib.hid hx; clear hx
          go_wp2_with fail
          go_quiet (fail)
          go_wp2_with fail
          go_roundw
          case rel => exact ⟨k + 1, by omega, by go_num, Lib.hid (HT.out HNO.out HX.out), below_drewN HBEL.out _⟩
          case measure => simp [intOf]; omega
        · rw [decide_eq_false hx] at hne
          have HX := Lib.hid hx; clear hx
          go_wp2_with fail
          go_quiet (fail)
          go_wp2_with fail
          go_ret
          exact ⟨ret_bool (decide_eq_false fun h => HX.out (HN.out h)).symm, below_drewN HBEL.out _⟩
      · clear hbel
        go_wp2_with fail
        go_ret
        exact ⟨ret_bool (decide_eq_true (by have := HNO.out; have h2 := HL.out; rwa [List.take_of_length_le (by omega), List.take_of_length_le (by omega)] at this)).symm, HBEL.out⟩
  · have HN := Lib.hid (decide_eq_false (fun h : a = b => hlen (by rw [h])))
    have hlen' : ((a.length : Int) == (b.length : Int)) = false := beq_eq_false_iff_ne.2 (by omega)
    go_enter Tryz.func14, Tryz.ntmps14
    go_wp2_with fail
    go_ret
    exact ⟨ret_bool HN.out.symm, Below.refl _ _⟩

set_option maxHeartbeats 1000000 in
set_option maxRecDepth 100000 in
theorem sameP_any (p q : Option Addr) (cap cap' : Nat) (a b : List Nat) (hla : a.length ≤ 1000000000) (_ : b.length ≤ 1000000000) (w : World) (B B' : Nat) (ha : PAt w B p a) (hb : PAt w B' q b) :
    Calls Tryz.prog 15 #[.slice p a.length cap, .slice q b.length cap'] w fun e w' => e = .returned (.bool (decide (a = b))) ∧ Below w.heap.size w w' := by
  by_cases hlen : a.length = b.length
  · have HL := Lib.hid hlen
    rw [← hlen]
    clear hlen
    go_enter Tryz.func15, Tryz.ntmps15
    go_wp2_with fail
    go_loopw [5] (fun i wr => ∃ k : Nat, k ≤ a.length ∧ i = .int .i64 k ∧ Hid (a.take k = b.take k) ∧ Below w.heap.size w wr) (fun i _ => a.length - (intOf i).toNat)
    case atStart => exact ⟨0, Nat.zero_le _, rfl, Lib.hid rfl, Below.refl _ _⟩
    case round =>
      obtain ⟨k, hk, rfl, HNO, hbel⟩ := hrel
      have HBEL := Lib.hid hbel
      by_cases hlt : k < a.length
      · have hlt2 : k < b.length := by have := HL.out; omega
        obtain ⟨b1, o1, rfl, _, _, hc⟩ := (ha.bel hbel (Nat.le_refl _)) (by intro h; simp [h] at hlt)
        obtain ⟨b2, o2, rfl, _, _, hd⟩ := (hb.bel hbel (Nat.le_refl _)) (by intro h; simp [h] at hlt2)
        obtain ⟨c1, c2⟩ := hc k hlt
        obtain ⟨d1, d2⟩ := hd k hlt2
        have HT := Lib.hid (take_eq a b k hlt hlt2)
        have HN := Lib.hid (show a = b → a[k] = b[k] from fun h => by subst h; rfl)
        clear hc hd hbel ha hb
        generalize a[k] = s at *
        generalize b[k] = u at *
        have hne := fun w => neProb s u w
        by_cases hx : s = u
        · rw [decide_eq_true hx] at hne
          have HX := Lib.hid hx; clear hx
          go_wp2_with fail
          go_quiet (fail)
          go_wp2_with fail
          go_roundw
          case rel => exact ⟨k + 1, by omega, by go_num, Lib.hid (HT.out HNO.out HX.out), below_drewN HBEL.out _⟩
          case measure => simp [intOf]; omega
        · rw [decide_eq_false hx] at hne
          have HX := Lib.hid hx; clear hx
          go_wp2_with fail
          go_quiet (fail)
          go_wp2_with fail
          go_ret
          exact ⟨ret_bool (decide_eq_false fun h => HX.out (HN.out h)).symm, below_drewN HBEL.out _⟩
      · clear hbel
        go_wp2_with fail
        go_ret
        exact ⟨ret_bool (decide_eq_true (by have := HNO.out; have h2 := HL.out; rwa [List.take_of_length_le (by omega), List.take_of_length_le (by omega)] at this)).symm, HBEL.out⟩
  · have HN := Lib.hid (decide_eq_false (fun h : a = b => hlen (by rw [h])))
    have hlen' : ((a.length : Int) == (b.length : Int)) = false := beq_eq_false_iff_ne.2 (by omega)
    go_enter Tryz.func15, Tryz.ntmps15
    go_wp2_with fail
    go_ret
    exact ⟨ret_bool HN.out.symm, Below.refl _ _⟩
end Go.Proofs.YtlcmedimgoaneaaGreatDoor
