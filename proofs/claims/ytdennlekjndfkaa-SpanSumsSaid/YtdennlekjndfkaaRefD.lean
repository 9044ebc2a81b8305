import Derived.Test.YtdennlekjndfkaaWith
import Derived.Test.YtdennlekjndfkaaRefC
import Derived.Test.YtdennlekjndfkaaMath2
namespace Go.Proofs.Ytdennlekjndfkaa
open Go.RowKit

theorem fit_of_bd {l : List Sp} (h : ∀ x ∈ l, Bd x) : ∀ x ∈ l, FitSp x := fun x hx => (h x hx).fit

set_option maxRecDepth 100000 in
set_option maxHeartbeats 1000000 in
theorem refTidy_any (p : Option Addr) (cap : Nat) (l : List Sp) (w : World) (B : Nat) (hl : SpAt w B p l) (hbd : ∀ x ∈ l, Bd x) (hsmall : l.length ≤ 1000000) :
    Calls Try.prog 36 #[.slice p l.length cap] w fun e w' => ∃ v, e = .returned v ∧ Own w' w.heap.size v (canon l) ∧ Below w.heap.size w w' := by
  go_enter Try.func36, Try.ntmps36
  go_wp2
  go_loopw [3, 4] (fun v i wr => ∃ (k : Nat) (o : List Sp), k ≤ l.length ∧ i = .int .i64 k ∧ Hid (o = canon (l.take k)) ∧ Own wr w.heap.size v o ∧ Below w.heap.size w wr) (fun _ i _ => l.length - (intOf i).toNat)
  case atStart => exact ⟨0, [], Nat.zero_le _, rfl, rfl, Own.made w _ _ rfl (Nat.le_refl _), (Below.refl _ _).alloc (Nat.le_refl _) _⟩
  case round =>
    obtain ⟨k, o, hk, rfl, HO, hown, hbel⟩ := hrel
    have HBEL := Lib.hid hbel
    have hob : ∀ y ∈ o, Bd y := by rw [HO.out]; exact canon_bd _ (fun x hx => hbd x (List.mem_of_mem_take hx))
    have hol : o.length ≤ k := by rw [HO.out]; exact Nat.le_trans (canon_len _ (fun x hx => hbd x (List.mem_of_mem_take hx))) (List.length_take_le _ _)
    by_cases hlt : k < l.length
    · obtain ⟨b, off, rfl, _, hbs, hc⟩ := hl.at' (by intro h; simp [h] at hlt)
      have c3 := (hbel.cell (p := ⟨b, off + k * 2, none⟩) hbs).trans (hc k hlt).1
      have c4 := (hbel.cell (p := ⟨b, off + k * 2 + 1, none⟩) hbs).trans (hc k hlt).2
      have HT := Lib.hid (canon_take l k hlt)
      have hx := hbd l[k] (List.getElem_mem hlt)
      obtain ⟨q, qc, rfl, hsp, _⟩ := hown.reads (fit_of_bd hob) (by omega)
      have HOB := Lib.hid hob
      clear hc hbel hob hown
      generalize l[k] = x at *
      go_wp2_with (go_at_call 43; refine (with_any q qc o x _ _ hsp HOB.out hx (by omega)).mono ?_; rintro e w1 ⟨v1, rfl, hown1, hb1⟩)
      go_roundw
      case rel => exact ⟨k + 1, withS o x, by omega, by go_num, by show _ = _; rw [HT.out, HO.out], hown1.mono HBEL.out.size, HBEL.out.trans (hb1.mono HBEL.out.size)⟩
      case measure => simp [intOf]; omega
    · clear hbel
      go_wp2
      go_ret
      exact ⟨_, rfl, by have := HO.out; rw [List.take_of_length_le (by omega)] at this; rw [← this]; exact hown, HBEL.out⟩

set_option maxHeartbeats 400000 in
theorem limited_any (p : Option Addr) (cap : Nat) (l : List Sp) (w : World) (hl : l.length ≤ 8796093022207) :
    Calls Try.prog 40 #[.slice p l.length cap] w fun e w' => (e = .returned (.tuple #[if 4096 < l.length then .slice none 0 0 else .slice p l.length cap, .int .i64 (limE l)])) ∧ w' = w := by
  by_cases h : 4096 < l.length
  · have E : limE l = 2 := by unfold limE; rw [if_pos h]
    rw [if_pos h, E]; clear E
    go_enter Try.func40, Try.ntmps40
    go_wp2
    go_ret2
    exact ⟨rfl, rfl⟩
  · have E : limE l = 0 := by unfold limE; rw [if_neg h]
    rw [if_neg h, E]; clear E
    go_enter Try.func40, Try.ntmps40
    go_wp2
    go_ret2
    exact ⟨rfl, rfl⟩

set_option maxHeartbeats 400000 in
theorem refSet_any (p : Option Addr) (cap : Nat) (l : List Sp) (w : World) (B : Nat) (hl : SpAt w B p l) :
    Calls Try.prog 14 #[.slice p l.length cap] w (Res w (setS l) (errL l)) := by
  by_cases h : errL l = 0
  · have HS := Lib.hid (show setS l = canon l by unfold setS; rw [if_pos h])
    have HE := Lib.hid h
    have hbd := Lib.hid (errL_bd h)
    have hlen := (errL_all h).1
    clear h
    go_enter Try.func14, Try.ntmps14
    go_wp2_with fail
    refine (valid_any p cap l _ B hl).mono ?_
    rw [HE.out]
    rintro e w1 ⟨rfl, hb1⟩
    have HB := Lib.hid hb1
    have hl' := hl.below hb1
    clear hb1
    go_wp2_with fail
    refine (refTidy_any p cap l _ B hl' hbd.out (by omega)).mono ?_
    rintro e w2 ⟨v, rfl, hown, hb2⟩
    obtain ⟨q, qc, rfl, hsp, _, hq, _⟩ := hown.reads (fit_of_bd (canon_bd _ hbd.out)) (Nat.le_trans (canon_len _ hbd.out) (by omega))
    have HB2 := Lib.hid hb2
    clear hb2 hown hl'
    go_wp2_with fail
    go_ret2
    exact ⟨q, qc, by rw [HS.out, HE.out]; rfl, by rw [HS.out]; exact hsp.mono HB.out.size, hq, HB.out.trans (HB2.out.mono HB.out.size)⟩
  · have HS := Lib.hid (show setS l = [] by unfold setS; rw [if_neg h])
    have h2 : (errL l != 0) = true := by simpa using h
    generalize hE : errL l = er at *
    have HE := Lib.hid hE; clear hE
    go_enter Try.func14, Try.ntmps14
    go_wp2_with fail
    refine (valid_any p cap l _ B hl).mono ?_
    rw [HE.out]
    rintro e w1 ⟨rfl, hb1⟩
    have HB := Lib.hid hb1
    clear hb1
    go_wp2_with fail
    go_ret2
    exact ⟨none, 0, by rw [HS.out]; rfl, by rw [HS.out]; exact SpAt.nil, fun _ => rfl, HB.out⟩
end Go.Proofs.Ytdennlekjndfkaa
