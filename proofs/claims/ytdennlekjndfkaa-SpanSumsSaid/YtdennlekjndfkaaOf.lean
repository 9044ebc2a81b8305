/- of: spans from pairs of numbers. -/
import Derived.Test.YtdennlekjndfkaaMeet
import Derived.Laws.BitsLemmas
import Derived.Deep.RegionHeld3
import Derived.Deep.AppendLies
import Derived.Deep.QuietTactic
import Derived.BigQuiet
namespace Go.Proofs.Ytdennlekjndfkaa
open Go.RowKit

/-- The slice of numbers holds the pairs of L, one behind the other. -/
def IntsAt (w : World) (b : Nat) (L : List Sp) : Prop := b < w.heap.size ∧ ∀ i (h : i < L.length), w.cell? ⟨b, 2 * i, none⟩ = some (.int .i64 L[i].1) ∧ w.cell? ⟨b, 2 * i + 1, none⟩ = some (.int .i64 L[i].2)

set_option maxRecDepth 100000 in
set_option maxHeartbeats 1000000 in
theorem of_any (b n cap : Nat) (L : List Sp) (w : World) (hI : IntsAt w b L) (hn : n = 2 * L.length) (hL : L.length ≤ 1000000) (hf : ∀ s ∈ L, FitSp s) :
    Calls Try.prog 31 #[.slice (some ⟨b, 0, none⟩) n cap] w fun e w' => ∃ p c, e = .returned (.slice p L.length c) ∧ SpAt w' w.heap.size p L ∧ (p = none → c = 0) ∧ Below w.heap.size w w' := by
  have hb := hI.1
  have HI := Lib.hid hI.2
  have HN := Lib.hid hn
  have hn2 : n ≤ 2000000 := by omega
  have HF := Lib.hid hf
  clear hI hn hf
  go_enter Try.func31, Try.ntmps31
  go_wp2_with fail
  go_loopw [3, 4] (fun v i wr => ∃ (m k : Nat), Hid (m = 2 * k ∧ k ≤ L.length) ∧ m ≤ n ∧ i = .int .i64 m ∧ Own wr w.heap.size v (L.take k) ∧ Hid (Below w.heap.size w wr)) (fun _ i _ => n - (intOf i).toNat)
  case atStart => exact ⟨0, 0, ⟨rfl, Nat.zero_le _⟩, Nat.zero_le _, by go_num, Own.made w _ _ rfl (Nat.le_refl _), (Below.refl _ _).alloc (Nat.le_refl _) _⟩
  case round =>
    obtain ⟨m, k, HK, hm, rfl, hown, HB⟩ := hrel
    by_cases hlt : m + 1 < n
    · have hlt2 : k < L.length := by have := HK.out; have := HN.out; omega
      obtain ⟨c1, c2⟩ := HI.out k hlt2
      rw [← HK.out.1] at c1 c2
      have d1 := (HB.out.cell (p := ⟨b, m, none⟩) hb).trans c1
      have d2 := (HB.out.cell (p := ⟨b, m + 1, none⟩) hb).trans c2
      have HT : Hid (L.take (k + 1) = L.take k ++ [L[k]]) := by show _ = _; rw [List.take_add_one, List.getElem?_eq_getElem hlt2]; rfl
      have hz := HB.out.size
      have hlen : (L.take k).length ≤ 1000000 := Nat.le_trans (List.length_take_le _ _) (by omega)
      clear c1 c2
      generalize L[k] = x at *
      have hbr : b < wr.heap.size := by omega
      go_wp2_with fail
      have i1 : m < n := by omega
      have i2 : (m : Int) < (n : Int) := by omega
      have i3 : (0 : Int) ≤ (m : Int) := by omega
      have i4 : ((m : Int) + 1) < (n : Int) := by omega
      have i5 : (0 : Int) ≤ (m : Int) + 1 := by omega
      have i7 : IntKind.i64.wrap ((m : Int) + 1) = (m : Int) + 1 := by rw [IntKind.wrap_i64]; omega
      have i6 : ((m : Int) + 1).toNat = m + 1 := by omega
      obtain ⟨i0, hi, hz0, hz1, hz2⟩ := info_parts Try.infoSp
      go_region_held3 (fun w' => w'.cell? ⟨b, m, none⟩ = some (.int .i64 x.1) ∧ w'.cell? ⟨b, m + 1, none⟩ = some (.int .i64 x.2)) (first | go_keep | exact ⟨hgrow.cell (later3 hbr d1) (fun e => by have := (hown.lt b e.symm).1; omega), hgrow.cell (later3 hbr d2) (fun e => by have := (hown.lt b e.symm).1; omega)⟩)
        (first
          | (refine step_append_lies _ rfl _ _ 24 rfl w.heap.size 23 i0 _ 2 16 Try.underlying24 hi hz0 hz1 hz2 rfl (by decide) _ (L.take k).length (flat (L.take k)) rfl (by first | exact (hown.alloc _).drewN 1 | exact (hown.drewN 1).alloc _) ⟨wr.heap.size, 0, none⟩ 1 _ [.int .i64 x.1, .int .i64 x.2] rfl rfl (cell_two_new wr _ _ _) (by simp [Value.oneCell']) (by decide) (by unfold maxLen; omega) (by omega) (by simp; omega) _ rfl ?_; intro g cap w5 hown5 hgrow hat hlt5))
      go_wp2_with fail
      go_roundw
      case rel =>
        refine ⟨m + 2, k + 1, ⟨by have := HK.out; omega, hlt2⟩, by omega, by go_num, ?_, ?_⟩
        · rw [HT.out]
          show World.ownsRow _ _ _ _ _ _ _
          rw [List.length_append, flat_append]
          rw [List.length_take] at hown5 ⊢
          exact hown5
        · exact (below_drewN (HB.out.alloc HB.out.size (.cells #[.int .i64 x.1, .int .i64 x.2] 23)) 1).grown hgrow (by simp; omega) (fun k hk => (hown.lt k hk).1)
      case measure => simp [intOf]; omega
    · have HE : Hid (L.take k = L) := List.take_of_length_le (by have := HK.out; have := HN.out; omega)
      rw [HE.out] at hown
      obtain ⟨p, c, rfl, hsp, _, hnil, _⟩ := hown.reads HF.out (by omega)
      have HSP := Lib.hid hsp
      clear hsp hown
      go_wp2_with fail
      go_ret
      exact ⟨p, c, rfl, HSP.out, hnil, HB.out⟩
end Go.Proofs.Ytdennlekjndfkaa
