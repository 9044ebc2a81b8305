/- The specification's reader: the next byte. -/
import Derived.Test.YtopkpdaingmmeaaVRead
import Derived.Deep.RegionHeld3
namespace Go.Proofs.Ytopkpdaingmmeaa
open Go.RowKit

/-- The reader lies in block rb: its bytes are the slice p of bs, in a block below lo; at bytes have been read. -/
structure Rdr (w : World) (lo rb : Nat) (p : Option Addr) (cap : Nat) (bs : List UInt8) (at' : Nat) (bad : Bool) : Prop where
  hlo : lo ≤ rb
  lt : rb < w.heap.size
  c0 : w.cell? ⟨rb, 0, none⟩ = some (.slice p bs.length cap)
  c1 : w.cell? ⟨rb, 1, none⟩ = some (.int .i64 at')
  c2 : w.cell? ⟨rb, 2, none⟩ = some (.bool bad)
  f1 : w.frozen? ⟨rb, 1, none⟩ = false
  f2 : w.frozen? ⟨rb, 2, none⟩ = false
  le : at' ≤ bs.length
  len : bs.length ≤ 1000000000000
  room : bs.length ≤ cap
  lies : Lies w lo p bs

theorem Rdr.same {w w' : World} {lo rb : Nat} {p : Option Addr} {cap : Nat} {bs : List UInt8} {at' : Nat} {bad : Bool} (h : Rdr w lo rb p cap bs at' bad) (hsz : w.heap.size ≤ w'.heap.size) (hb : ∀ k, k < w.heap.size → w'.heap[k]? = w.heap[k]?) : Rdr w' lo rb p cap bs at' bad := by
  obtain ⟨h1, h2, h3, h4, h5, h6, h7, h8, h9, h10, h11⟩ := h
  have hc := fun o => World.cell?_of_block (a := ⟨rb, o, none⟩) (hb rb h2)
  have hf := fun o => World.frozen?_of_block (a := ⟨rb, o, none⟩) (hb rb h2)
  exact ⟨h1, Nat.lt_of_lt_of_le h2 hsz, (hc 0).trans h3, (hc 1).trans h4, (hc 2).trans h5, (hf 1).trans h6, (hf 2).trans h7, h8, h9, h10, h11.keep fun k hk => hb k (by omega)⟩
theorem Rdr.bel {w w' : World} {lo rb m : Nat} {p : Option Addr} {cap : Nat} {bs : List UInt8} {at' : Nat} {bad : Bool} (h : Rdr w lo rb p cap bs at' bad) (hb : Below m w w') (hm : w.heap.size ≤ m) : Rdr w' lo rb p cap bs at' bad :=
  h.same hb.size fun k hk => hb.block k (by omega)
/-- So many bytes have been read. -/
theorem Rdr.moved {w : World} {lo rb : Nat} {p : Option Addr} {cap : Nat} {bs : List UInt8} {at' : Nat} {bad : Bool} (h : Rdr w lo rb p cap bs at' bad) (n : Nat) (hn : n ≤ bs.length) :
    Rdr (w.setCell ⟨rb, 1, none⟩ (.int .i64 n)) lo rb p cap bs n bad ∧ Kept w (w.setCell ⟨rb, 1, none⟩ (.int .i64 n)) rb none := by
  obtain ⟨h1, h2, h3, h4, h5, h6, h7, h8, h9, h10, h11⟩ := h
  refine ⟨⟨h1, by simpa using h2, ?_, World.cell?_setCell_same _ _ _ h4, ?_, by simpa using h6, by simpa using h7, hn, h9, h10, h11.keep fun k hk => heap_setCell_other _ _ _ _ (by dsimp only; omega)⟩, rfl, rfl, rfl, by simp, fun k hk hne _ => heap_setCell_other _ _ _ _ hne⟩
  · rw [World.cell?_setCell_other _ _ _ _ (by simp)]; exact h3
  · rw [World.cell?_setCell_other _ _ _ _ (by simp)]; exact h5
/-- There is no such encoding. -/
theorem Rdr.failed {w : World} {lo rb : Nat} {p : Option Addr} {cap : Nat} {bs : List UInt8} {at' : Nat} {bad : Bool} (h : Rdr w lo rb p cap bs at' bad) :
    Rdr (w.setCell ⟨rb, 2, none⟩ (.bool true)) lo rb p cap bs at' true ∧ Kept w (w.setCell ⟨rb, 2, none⟩ (.bool true)) rb none := by
  obtain ⟨h1, h2, h3, h4, h5, h6, h7, h8, h9, h10, h11⟩ := h
  refine ⟨⟨h1, by simpa using h2, ?_, ?_, World.cell?_setCell_same _ _ _ h5, by simpa using h6, by simpa using h7, h8, h9, h10, h11.keep fun k hk => heap_setCell_other _ _ _ _ (by dsimp only; omega)⟩, rfl, rfl, rfl, by simp, fun k hk hne _ => heap_setCell_other _ _ _ _ hne⟩
  · rw [World.cell?_setCell_other _ _ _ _ (by simp)]; exact h3
  · rw [World.cell?_setCell_other _ _ _ _ (by simp)]; exact h4

theorem Rdr.drew {w : World} {lo rb : Nat} {p : Option Addr} {cap : Nat} {bs : List UInt8} {at' : Nat} {bad : Bool} (h : Rdr w lo rb p cap bs at' bad) : Rdr w.drew lo rb p cap bs at' bad := h.same (Nat.le_refl _) fun _ _ => rfl
theorem Kept.drew {w w' : World} {ob : Nat} {r : Option Nat} (h : Kept w w' ob r) : Kept w w'.drew ob r := ⟨h.os, h.tape, h.output, h.size, h.block⟩

set_option maxHeartbeats 1000000 in
theorem next_no (w : World) (lo rb : Nat) (p : Option Addr) (cap : Nat) (bs : List UInt8) (at' : Nat) (bad : Bool) (h : Rdr w lo rb p cap bs at' bad) (hn : bs.length ≤ at') :
    Calls Try.prog 53 #[.pointer (some ⟨rb, 0, none⟩)] w fun e w' => e = .returned (.int .u8 0) ∧ Rdr w' lo rb p cap bs at' true ∧ Kept w w' rb none := by
  have HF := Lib.hid h.failed
  obtain ⟨h1, h2, h3, h4, h5, h6, h7, h8, h9, h10, h11⟩ := h
  clear h11
  clear h1
  generalize bs.length = len at *
  have hc : (len : Int) ≤ (at' : Int) := by omega
  have hc2 : decide ((len : Int) ≤ (at' : Int)) = true := decide_eq_true hc
  go_enter Try.func53, Try.ntmps53
  go_wp2_with fail
  go_region_held3 (fun w' => w'.cell? ⟨rb, 0, none⟩ = some (.slice p len cap) ∧ w'.cell? ⟨rb, 1, none⟩ = some (.int .i64 at') ∧ Hid (w' = w.drew)) (first | exact ⟨h3, h4, Lib.hid rfl⟩ | assumption) (fail)
  go_wp2_with fail
  go_ret
  exact ⟨rfl, HF.out.1.drew, HF.out.2.drew⟩


set_option maxHeartbeats 1000000 in
theorem next_yes (w : World) (lo rb : Nat) (p : Option Addr) (cap : Nat) (bs : List UInt8) (at' : Nat) (bad : Bool) (h : Rdr w lo rb p cap bs at' bad) (hn : at' < bs.length) :
    Calls Try.prog 53 #[.pointer (some ⟨rb, 0, none⟩)] w fun e w' => e = .returned (.int .u8 bs[at'].toNat) ∧ Rdr w' lo rb p cap bs (at' + 1) bad ∧ Kept w w' rb none := by
  have HF := Lib.hid (h.moved (at' + 1) hn)
  obtain ⟨h1, h2, h3, h4, h5, h6, h7, h8, h9, h10, h11⟩ := h
  obtain ⟨b, off, rfl, hb, hcell⟩ := h11 (by rintro rfl; simp at hn)
  have k0 := hcell at' hn
  have d0 := HF.out.1.c0
  have d1 : (w.setCell ⟨rb, 1, none⟩ (.int .i64 (at' + 1 : Nat))).cell? ⟨rb, 1, none⟩ = some (.int .i64 ((at' : Int) + 1)) := HF.out.1.c1
  have d2 : (w.setCell ⟨rb, 1, none⟩ (.int .i64 (at' + 1 : Nat))).cell? ⟨b, off + at', none⟩ = some (.int .u8 bs[at'].toNat) := by
    rw [World.cell?_setCell_other _ _ _ _ (by simp <;> omega)]; exact k0
  clear hcell
  generalize bs[at'].toNat = x at *
  have hne : ¬ b = rb := by omega
  have hw1 : IntKind.i64.wrap ((at' : Int) + 1) = (at' : Int) + 1 := by simp [IntKind.wrap, IntKind.bits, IntKind.signed]; omega
  clear h11 hb h1
  generalize bs.length = len at *
  have hc : ¬ (len : Int) ≤ (at' : Int) := by omega
  have i0 : (0 : Int) ≤ (at' : Int) := by omega
  have i1 : (at' : Int) < (len : Int) := by omega
  have i3 : IntKind.i64.wrap (at' : Int) = (at' : Int) := by simp [IntKind.wrap, IntKind.bits, IntKind.signed]; omega
  go_enter Try.func53, Try.ntmps53
  go_wp2_with fail
  go_region_held3 (fun w' => w'.cell? ⟨rb, 0, none⟩ = some (.slice (some ⟨b, off, none⟩) len cap) ∧ w'.cell? ⟨rb, 1, none⟩ = some (.int .i64 at') ∧ Hid (w' = w.drew)) (first | exact ⟨h3, h4, Lib.hid rfl⟩ | assumption) (fail)
  go_wp2_with fail
  go_region_held3 (fun w' => w'.cell? ⟨rb, 0, none⟩ = some (.slice (some ⟨b, off, none⟩) len cap) ∧ w'.cell? ⟨rb, 1, none⟩ = some (.int .i64 ((at' : Int) + 1)) ∧ w'.cell? ⟨b, off + at', none⟩ = some (.int .u8 x)) (first | exact ⟨d0, d1, d2⟩ | assumption) (fail)
  go_wp2_with fail
  go_ret
  exact ⟨rfl, HF.out.1.drew.drew, HF.out.2.drew.drew⟩

end Go.Proofs.Ytopkpdaingmmeaa
