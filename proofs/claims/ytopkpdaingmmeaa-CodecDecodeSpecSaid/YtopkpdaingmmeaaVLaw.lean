/- What the laws share. -/
import Derived.Test.YtopkpdaingmmeaaVOpen
import Derived.Test.YtopkpdaingmmeaaVRefSame
import Derived.Test.YtopkpdaingmmeaaVMono
import Derived.Deep.DeepCutAuto
namespace Go.Proofs.Ytopkpdaingmmeaa
open Go.RowKit

theorem one_at {w : World} {B : Nat} {v : V} {p : Option Addr} {cap : Nat} (h : VAt w B v p cap) : LAt (w.alloc (.cells #[.int .i64 v.k, .int .i64 v.n, .string v.s, .slice p v.l.length cap] 24)) 0 [v] (some ⟨w.heap.size, 0, none⟩) 1 := by
  have hb := (Below.refl w.heap.size w).alloc (Nat.le_refl _) (.cells #[.int .i64 v.k, .int .i64 v.n, .string v.s, .slice p v.l.length cap] 24)
  refine .mk 0 0 _ _ _ 1 w.heap.size 0 (fun _ => p) (fun _ => cap) ⟨by decide, by decide⟩ ⟨by decide, by decide⟩ (by decide) (by simp) (by simp) (by decide) (fun e => by cases e) (fun _ => ⟨rfl, Nat.zero_le _, by simp⟩) (fun i hi => ?_) (fun i hi => ?_)
  · match i, hi with
    | 0, _ => simp [go_sem]
  · match i, hi with
    | 0, _ => exact (h.mono (Nat.zero_le _)).bel hb
theorem two_at {w : World} {B B' : Nat} {v u : V} {p q : Option Addr} {cap c : Nat} (h : VAt w B v p cap) (h' : VAt w B' u q c) : LAt (w.alloc (.cells #[.int .i64 v.k, .int .i64 v.n, .string v.s, .slice p v.l.length cap, .int .i64 u.k, .int .i64 u.n, .string u.s, .slice q u.l.length c] 24)) 0 [v, u] (some ⟨w.heap.size, 0, none⟩) 2 := by
  have hb := (Below.refl w.heap.size w).alloc (Nat.le_refl _) (.cells #[.int .i64 v.k, .int .i64 v.n, .string v.s, .slice p v.l.length cap, .int .i64 u.k, .int .i64 u.n, .string u.s, .slice q u.l.length c] 24)
  refine .mk 0 0 _ _ _ 2 w.heap.size 0 (fun i => if i = 0 then p else q) (fun i => if i = 0 then cap else c) ⟨by decide, by decide⟩ ⟨by decide, by decide⟩ (by decide) (by simp) (by simp) (by decide) (fun e => by cases e) (fun _ => ⟨rfl, Nat.zero_le _, by simp⟩) (fun i hi => ?_) (fun i hi => ?_)
  · match i, hi with
    | 0, _ => simp [go_sem]
    | 1, _ => simp [go_sem]
  · match i, hi with
    | 0, _ => exact (h.mono (Nat.zero_le _)).bel hb
    | 1, _ => exact (h'.mono (Nat.zero_le _)).bel hb

theorem rank_depth (N : Nat) : ∀ v, rank v ≤ N → formed v = true → rank v ≤ depth v + 1 := by
  induction N with
  | zero => intro v hv; obtain ⟨k, n, s, l⟩ := v; rw [rank_mk] at hv; omega
  | succ N ih =>
    intro v hv hf
    obtain ⟨k, n, s, l⟩ := v
    rcases formed_kind hf with rfl | rfl | rfl
    · obtain ⟨rfl, rfl⟩ := (formed_int _ _ _).1 hf
      rw [rank_leaf]; omega
    · obtain ⟨rfl, rfl⟩ := (formed_text _ _ _).1 hf
      rw [rank_leaf]; omega
    · have hl := ((formed_list _ _ _).1 hf).2.2
      rw [rank_mk, depth, if_pos rfl]
      have : rankL l ≤ depthL l + 1 := rankL_le l _ fun x hx => by
        have h1 := ih x (by have := rank_lt 3 n s l x hx; omega) (hl x hx)
        have h2 := (depthL_le l (depthL l)).1 (Nat.le_refl _) x hx
        omega
      omega
theorem good_rank {v : V} (h : Good 16 v) : rank v ≤ 17 := by
  have := rank_depth _ v (Nat.le_refl _) h.1
  have := h.2.1
  omega
theorem dec_cases (bs : List UInt8) : (∃ v, Good 16 v ∧ bs = enc v ∧ decV bs = v ∧ decE bs = 0) ∨ (decV bs = .mk 0 0 ⟨#[]⟩ [] ∧ decE bs = 20) := by
  cases h : rdV 16 bs with
  | none => right; unfold decV decE; rw [h]; exact ⟨rfl, rfl⟩
  | some vr =>
    obtain ⟨v, r⟩ := vr
    cases r with
    | nil =>
      left
      obtain ⟨h1, h2⟩ := (rdV_iff 16 bs v []).1 h
      refine ⟨v, h1, by rw [h2, List.append_nil], ?_⟩
      unfold decV decE; rw [h]; exact ⟨rfl, rfl⟩
    | cons c r => right; unfold decV decE; rw [h]; exact ⟨rfl, rfl⟩
theorem good_of {w : World} {B : Nat} {v : V} {p : Option Addr} {cap : Nat} (h : VAt w B v p cap) (he : errV v = 0) : Good 16 v := by
  unfold errV at he
  split at he
  · next h1 =>
    split at he
    · next h2 => exact ⟨h1, h2, h.fits⟩
    · omega
  · omega
theorem checkG_any {v : V} (h : Good 16 v) (w : World) (B : Nat) (p : Option Addr) (cap : Nat) (hv : VAt w B v p cap) :
    Calls Try.prog 16 #[vV v p cap] w fun e w' => e = .returned (.int .i64 0) ∧ Below w.heap.size w w' := by
  have := check_any v (by have := good_rank h; omega) w B p cap hv
  rwa [errV_good h] at this
end Go.Proofs.Ytopkpdaingmmeaa
