/- The specification's token. -/
import Derived.Test.YtlcmedimgoaneaaGreatDoorKRQ
import Derived.Test.YtlcmedimgoaneaaGreatDoorKRef4
namespace Go.Proofs.YtlcmedimgoaneaaGreatDoor
open Go.RowKit

/-- What token hands back first. -/
def tokR (k : Int) (t : Bs) (a : Nat) : Value := if k = 0 then .agg #[.int .i64 0, .string ⟨#[]⟩, .int .i64 0] else tokV k t a
theorem tokR_0 (t : Bs) (a : Nat) : tokR 0 t a = .agg #[.int .i64 0, .string ⟨#[]⟩, .int .i64 0] := rfl
theorem tokR_k {k : Int} (h : k ≠ 0) (t : Bs) (a : Nat) : tokR k t a = tokV k t a := if_neg h

/-- The cell of the result, laid anew, as it still lies after other calls. -/
theorem zat {w w1 : World} (h : Below (w.alloc (.cells #[.int .i64 0, .string ⟨#[]⟩, .int .i64 0] 38)).heap.size (w.alloc (.cells #[.int .i64 0, .string ⟨#[]⟩, .int .i64 0] 38)) w1) :
    (w1.cell? ⟨w.heap.size, 0, none⟩ = some (.int .i64 0) ∧ w1.cell? ⟨w.heap.size, 1, none⟩ = some (.string ⟨#[]⟩) ∧ w1.cell? ⟨w.heap.size, 2, none⟩ = some (.int .i64 0)) ∧ (w1.frozen? ⟨w.heap.size, 0, none⟩ = false ∧ w1.frozen? ⟨w.heap.size, 1, none⟩ = false ∧ w1.frozen? ⟨w.heap.size, 2, none⟩ = false) ∧ w.heap.size < w1.heap.size := by
  have hb := h.block w.heap.size (by simp)
  have hc := fun o => World.cell?_of_block (a := ⟨w.heap.size, o, none⟩) hb
  have hf := fun o => World.frozen?_of_block (a := ⟨w.heap.size, o, none⟩) hb
  have hs := h.size
  refine ⟨⟨(hc 0).trans ?_, (hc 1).trans ?_, (hc 2).trans ?_⟩, ⟨(hf 0).trans ?_, (hf 1).trans ?_, (hf 2).trans ?_⟩, ?_⟩
  all_goals first | (simp [go_sem]; done) | (simp at hs; omega)
theorem tok3_below {w w1 : World} {b : Nat} (h : Below w.heap.size w w1) (hb : w.heap.size ≤ b) (v0 v1 v2 : Value) : Below w.heap.size w (tok3 w1 b v0 v1 v2) := by
  have h1 : ∀ {x : World} (o : Nat) (u : Value), Below w.heap.size w x → Below w.heap.size w (x.setCell ⟨b, o, none⟩ u) := fun o u hx =>
    ⟨hx.os, hx.tape, hx.output, by simpa using hx.size, fun k hk => (heap_setCell_other _ _ _ _ (by dsimp only; omega)).trans (hx.block k hk)⟩
  exact h1 _ _ (h1 _ _ (h1 _ _ h))
/-- The bytes from p on, and their conversions. -/
theorem srcFacts {l : Bs} {w : World} {B b off cap : Nat} (hat : BAt w B (some ⟨b, off, none⟩) l) (p : Nat) :
    Hid (∀ wx, Below w.heap.size w wx → ∀ i (h : i < l.length), wx.cell? ⟨b, off + i, none⟩ = some (.int .u8 l[i].toNat)) ∧
    Hid (∀ wx, Below w.heap.size w wx → ∀ n, p ≤ n → n ≤ l.length → (convert 22 9 (.slice (some ⟨b, off + p, none⟩) (n - p) (cap - p))).run Tryz.prog wx = .ok (.string (S ((l.drop p).take (n - p)))) wx) := by
  refine ⟨Lib.hid fun wx hb i h => ?_, Lib.hid fun wx hb n h2 h3 => ?_⟩
  · obtain ⟨rb', ro', hre, -, -, hrc⟩ := (hat.bel hb (Nat.le_refl _)).at' (by intro e; rw [e] at h; simp at h)
    cases hre
    exact hrc i h
  · have := (((hat.bel hb (Nat.le_refl _)).drop p).take (n - p)).str (cap - p)
    rwa [List.length_take, List.length_drop, Nat.min_eq_left (by omega)] at this

set_option maxHeartbeats 4000000 in
set_option maxRecDepth 100000 in
theorem tkWord_any (l : Bs) (hl : l.length ≤ 100000) (p : Nat) (hp : p < l.length) (h1 : isL l[p] = true) (w : World) (B b off cap : Nat) (hat : BAt w B (some ⟨b, off, none⟩) l) (hc1 : l.length ≤ cap) (_ : cap ≤ 9223372036854775807) :
    Calls Tryz.prog 30 #[.slice (some ⟨b, off, none⟩) l.length cap, .int .i64 p] w fun e w' => e = .returned (.tuple #[tokR (tok (l.drop p)).1 (tok (l.drop p)).2.1 p, .int .i64 (tok (l.drop p)).2.2]) ∧ Below w.heap.size w w' := by
  obtain ⟨HP, HCV⟩ := srcFacts (cap := cap) hat p
  clear hat
  rw [tok_word hp h1]
  have HK : Hid (wdLen (l.drop p) = wdLen (l.drop (p + 1)) + 1) := Lib.hid (wd_go hp (by unfold isW; rw [h1]; rfl))
  generalize wdLen (l.drop (p + 1)) + 1 = K at *
  have HLT := Lib.hid (letter_any l[p] w)
  have HL1 := Lib.hid (letter_any l[p] (w.alloc (.cells #[.int .i64 0, .string ⟨#[]⟩, .int .i64 0] 38)))
  rw [h1] at HLT HL1
  have HBA := Lib.hid ((Below.refl w.heap.size w).alloc (Nat.le_refl _) (.cells #[.int .i64 0, .string ⟨#[]⟩, .int .i64 0] 38))
  have y0 := HP.out _ HBA.out p hp
  have hpi : (p : Int) < (l.length : Int) := by omega
  have hcp : ¬ cap = p := by omega
  clear h1
  generalize l[p].toNat = c at *
  go_enter Tryz.func30, Tryz.ntmps30
  go_wp2_with fail
  go_at_call 64
  refine HL1.out.mono ?_
  rintro e w1 ⟨rfl, rfl⟩
  go_wp2_with fail
  go_loopw [7] (fun v wr => ∃ n : Nat, p ≤ n ∧ n ≤ l.length ∧ v = .int .i64 n ∧ Hid (n - p + wdLen (l.drop n) = K) ∧ wr = w.alloc (.cells #[.int .i64 0, .string ⟨#[]⟩, .int .i64 0] 38)) (fun v _ => l.length - (intOf v).toNat)
  case atStart => exact ⟨p, Nat.le_refl _, by omega, rfl, Lib.hid (by rw [HK.out]; omega), rfl⟩
  case round =>
    obtain ⟨n, hn1, hn2, rfl, HN, rfl⟩ := hrel
    clear y0
    by_cases hlt : n < l.length
    · have hlti : (n : Int) < (l.length : Int) := by omega
      have y1 := HP.out _ HBA.out n hlt
      have HI := Lib.hid (inner_any (l[n]'hlt) (w.alloc (.cells #[.int .i64 0, .string ⟨#[]⟩, .int .i64 0] 38)))
      have HG := Lib.hid (wd_go hlt)
      have HS := Lib.hid (wd_stop hlt)
      generalize isW (l[n]'hlt) = iw at *
      generalize (l[n]'hlt).toNat = d at *
      cases iw with
      | true =>
        have HN2 : Hid (n + 1 - p + wdLen (l.drop (n + 1)) = K) := Lib.hid (by have := HN.out; rw [HG.out rfl] at this; omega)
        go_wp2_with (go_at_call 65; refine HI.out.mono ?_; rintro e w' ⟨rfl, rfl⟩)
        go_roundw
        case rel => exact ⟨n + 1, by omega, by omega, by go_num, HN2, trivial⟩
        case measure => simp [intOf]; omega
      | false =>
        have hK : n - p = K := by have := HN.out; rw [HS.out rfl] at this; omega
        have hcv := HCV.out _ HBA.out n hn1 hn2
        rw [hK] at hcv
        have hKi : (n : Int) - p = K := by omega
        go_wp2_with (go_at_call 65; refine HI.out.mono ?_; rintro e w' ⟨rfl, rfl⟩)
        refine bodyPost_ret (v := .tuple #[.agg #[.int .i64 1, .string (S ((l.drop p).take K)), .int .i64 p], .int .i64 K]) ?_ rfl ⟨rfl, (Below.refl w.heap.size w).alloc (Nat.le_refl _) _⟩
        simp [results, Tryz.results30, go_sem]
    · have hlti : ¬ (n : Int) < (l.length : Int) := by omega
      have hK : n - p = K := by have := HN.out; rw [List.drop_of_length_le (by omega)] at this; have h0 : wdLen [] = 0 := rfl; rw [h0] at this; omega
      have hcv := HCV.out _ HBA.out n hn1 hn2
      rw [hK] at hcv
      have hKi : (n : Int) - p = K := by omega
      go_wp2_with (fail)
      refine bodyPost_ret (v := .tuple #[.agg #[.int .i64 1, .string (S ((l.drop p).take K)), .int .i64 p], .int .i64 K]) ?_ rfl ⟨rfl, (Below.refl w.heap.size w).alloc (Nat.le_refl _) _⟩
      simp [results, Tryz.results30, go_sem]
end Go.Proofs.YtlcmedimgoaneaaGreatDoor
