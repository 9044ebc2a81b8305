/- The source's reader of quoted texts. -/
import Derived.Test.YtdhdjfkknfbmhaaGreatDoorKSrc2
namespace Go.Proofs.YtdhdjfkknfbmhaaGreatDoor
open Go.RowKit

/-- No quoted text begins before br. -/
def Barr (l : Bs) (p br : Nat) : Prop := ∀ i, p ≤ i → i < br → l[i]? = some 34 → qt (l.drop i) = none
theorem Barr.mono {l : Bs} {p q br : Nat} (h : Barr l p br) (hq : p ≤ q) : Barr l q br := fun i hi => h i (by omega)
theorem barr_new {l : Bs} {p : Nat} {r : Bs} (hr : l.drop p = 34 :: r) (hf : (body r).2.head? ≠ some 34) : Barr l (p + 1) (p + (r.length - (body r).2.length + 1)) := by
  intro i hi hi2 hq
  have hri : r[i - (p + 1)]? = some 34 := by
    have h1 : (l.drop p)[i - p]? = some 34 := by rw [List.getElem?_drop, show p + (i - p) = i by omega]; exact hq
    rw [hr, show i - p = (i - (p + 1)) + 1 by omega, List.getElem?_cons_succ] at h1
    exact h1
  have hb := body_barren r.length r (Nat.le_refl _) hf (i - (p + 1)) (by omega) hri
  have hd : l.drop i = 34 :: r.drop (i - (p + 1) + 1) := by
    have hlt : i < l.length := (List.getElem?_eq_some_iff.1 hq).1
    rw [← List.getElem_cons_drop hlt]
    have he : l[i] = 34 := by
      have := List.getElem?_eq_getElem hlt
      rw [hq] at this
      exact (Option.some.inj this).symm
    rw [he]
    congr 1
    have h2 : l.drop (i + 1) = (l.drop p).drop (i + 1 - p) := by rw [List.drop_drop, show p + (i + 1 - p) = i + 1 by omega]
    rw [h2, hr, show i + 1 - p = (i - (p + 1) + 1) + 1 by omega, List.drop_succ_cons]
  rw [hd]
  unfold qt
  rw [List.tail_cons, if_neg hb]

/-- What quotedText reads. -/
def qtok (r : Bs) : Int × Bs × Nat := match qt (34 :: r) with | some q => (4, q.1, q.2) | none => (0, [34], 1)
theorem qtok_no {l : Bs} {p br : Nat} {r : Bs} (hr : l.drop p = 34 :: r) (hB : Barr l p br) (h : p < br) : qtok r = (0, [34], 1) := by
  have h1 := hB p (Nat.le_refl _) h (by
    have : (l.drop p)[0]? = some 34 := by rw [hr]; rfl
    rw [List.getElem?_drop] at this
    simpa using this)
  rw [hr] at h1
  unfold qtok
  rw [h1]
theorem qtok_unq (r : Bs) : qtok r = if (body r).2.head? = some 34 then (4, (body r).1, r.length - (body r).2.length + 2) else (0, [34], 1) := by
  unfold qtok qt
  rw [List.tail_cons]
  by_cases h : (body r).2.head? = some 34
  · rw [if_pos h, if_pos h]
    have hl := (body_len _ r (Nat.le_refl _)).1
    simp only [List.length_cons]
    congr 2
    omega
  · rw [if_neg h, if_neg h]

/-- What the reader of a quoted text comes to. -/
def QPost (w : World) (sb rb : Nat) (l : Bs) (at' : Nat) (q : Int × Bs × Nat) (e : Ending) (w' : World) : Prop :=
  ∃ br', e = .returned (tokV q.1 q.2.1 at') ∧ Src w' sb rb l (at' + q.2.2) br' ∧ Barr l (at' + q.2.2) br' ∧ Kp w w' sb

set_option maxHeartbeats 2000000 in
set_option maxRecDepth 100000 in
theorem srcQuoted_any (w : World) (hG : Gl w) (sb rb : Nat) (l : Bs) (at' br : Nat) (h : Src w sb rb l at' br) (r : Bs) (hr : l.drop at' = 34 :: r) (hBr : Barr l at' br) :
    Calls Tryz.prog 51 #[.pointer (some ⟨sb, 0, none⟩)] w (QPost w sb rb l at' (qtok r)) := by
  have hlt := h.lt
  have hrb := h.rlt
  have hdl := drop_len hr h.le
  have hl8 := h.len
  have hAB := (Below.refl w.heap.size w).alloc (Nat.le_refl _) zero3
  have HG := Lib.hid (hG.bel' hAB)
  have hSA := h.alloc zero3
  by_cases hat : at' < br
  · rw [qtok_no hr hBr hat]
    have HT := Lib.hid ((take_any _ sb rb l at' br hSA.drew 0 1 (by omega)).mono fun e w' (h : _ ∧ _ ∧ _) => (⟨by rw [h.1, hr]; rfl, h.2.1, (Kp.ofBelow (Below.refl _ _).drew (Nat.le_refl _)).trans h.2.2⟩ : e = .returned (tokV 0 [34] at') ∧ Src w' sb rb l (at' + 1) br ∧ Kp (w.alloc zero3) w' sb))
    have c2 := hSA.c2
    have c3 := hSA.c3
    have HBR := Lib.hid (hBr.mono (Nat.le_succ at'))
    clear h hG hAB hSA
    unfold zero3 at HT c2 c3
    go_enter Tryz.func51, Tryz.ntmps51
    go_wp2_with fail
    go_region
    go_wp2_with fail
    go_at_call 56
    refine HT.out.mono ?_
    rintro e w3 ⟨rfl, hs3, hk3⟩
    obtain ⟨⟨z0, z1, z2⟩, ⟨f0, f1, f2⟩, e5⟩ := resZ hlt hk3
    have HE := Lib.hid (tokEnd hs3 hk3 hlt hrb)
    clear hs3 hk3
    unfold tokV
    go_wp2_with fail
    obtain ⟨⟨q0, q1, q2⟩, F⟩ := HE.out _ _ _
    unfold tok3 at q0 q1 q2 F
    refine bodyPost_ret (v := tokV 0 [34] at') ?_ rfl ⟨br, rfl, F.1, HBR.out, F.2⟩
    simp [results, Tryz.results51, go_sem, q0, q1, q2, tokV]
  · have c2 := hSA.c2
    have c3 := hSA.c3
    have hrl : r.length ≤ 90000 := by omega
    have HR := rest_any _ _ _ _ _ _ hSA.drew
    rw [hr] at HR
    have HU := unquoted_any r hrl _ (((hG.bel' hAB).bel' (Below.refl _ _).drew).bel' (Below.refl _ _).drew)
    have hbl := (body_len _ r (Nat.le_refl _)).1
    have hgi : (br : Int) ≤ (at' : Int) := by omega
    have HD : Hid (Below (w.alloc zero3).heap.size (w.alloc zero3) (w.alloc zero3).drew.drew) := Lib.hid (Below.refl _ _).drew.drew
    by_cases hq : (body r).2.head? = some 34
    · have hlen1 : 1 ≤ (body r).2.length := by
        cases hb : (body r).2 with
        | nil => rw [hb] at hq; simp at hq
        | cons _ _ => simp
      rw [qtok_unq, if_pos hq]
      have hun : unqR r = (S (body r).1, ((r.length - (body r).2.length + 2 : Nat) : Int), true) := by unfold unqR; rw [if_pos hq]
      rw [hun] at HU
      generalize hnn : r.length - (body r).2.length + 2 = nn at *
      generalize htk : ((34 :: r) : Bs).take nn = tk
      have HT : Hid (∀ w1, Below (w.alloc zero3).heap.size (w.alloc zero3) w1 → Calls Tryz.prog 56 #[.pointer (some ⟨sb, 0, none⟩), .int .i64 4, .int .i64 nn] w1 fun e w' => e = .returned (tokV 4 tk at') ∧ Src w' sb rb l (at' + nn) br ∧ Kp (w.alloc zero3) w' sb) := Lib.hid fun w1 hb =>
        (take_any w1 sb rb l at' br (hSA.bel hb (Nat.le_refl _)) 4 nn (by omega)).mono fun e w' ⟨h1, h2, h3⟩ => ⟨by rw [h1, hr, htk], h2, (Kp.ofBelow hb (Nat.le_refl _)).trans h3⟩
      have HBR := Lib.hid (hBr.mono (q := at' + nn) (by omega))
      have HR := Lib.hid HR
      have HU := Lib.hid HU
      clear h hG hAB hSA hbl hun htk
      generalize (body r).1 = ct at *
      clear hq hlen1
      unfold zero3 at HR HU c2 c3
      go_enter Tryz.func51, Tryz.ntmps51
      go_wp2_with fail
      go_region
      go_wp2_with fail
      go_at_call 55
      refine HR.out.mono ?_
      rintro e w1 ⟨rfl, rfl⟩
      go_wp2_with fail
      go_at_call 111
      refine HU.out.mono ?_
      rintro e w2 ⟨rfl, hb2⟩
      have HB2 := Lib.hid (HD.out.trans hb2); clear hb2
      go_wp2_with fail
      go_at_call 56
      refine (HT.out _ HB2.out).mono ?_
      rintro e w3 ⟨rfl, hs3, hk3⟩
      obtain ⟨⟨z0, z1, z2⟩, ⟨f0, f1, f2⟩, e5⟩ := resZ hlt hk3
      have HE := Lib.hid (tokEnd hs3 hk3 hlt hrb)
      have hne3 : ¬ w.heap.size = w3.heap.size := by omega
      clear hs3 hk3
      unfold tokV
      go_wp2_with fail
      obtain ⟨⟨q0, q1, q2⟩, F⟩ := HE.out (.int .i64 4) (.string (S ct)) (.int .i64 at')
      have HF := Lib.hid (show Src ((tok3 w3 w.heap.size (.int .i64 4) (.string (S ct)) (.int .i64 at')).alloc (.cells #[.int .i64 4, .string (S ct), .int .i64 at'] 57)) sb rb l (at' + nn) br ∧ Kp w ((tok3 w3 w.heap.size (.int .i64 4) (.string (S ct)) (.int .i64 at')).alloc (.cells #[.int .i64 4, .string (S ct), .int .i64 at'] 57)) sb from ⟨F.1.alloc _, F.2.alloc _⟩)
      have hB := (Below.refl (tok3 w3 w.heap.size (.int .i64 4) (.string (S ct)) (.int .i64 at')).heap.size (tok3 w3 w.heap.size (.int .i64 4) (.string (S ct)) (.int .i64 at'))).alloc (Nat.le_refl _) (.cells #[.int .i64 4, .string (S ct), .int .i64 at'] 57)
      have hl3 : w.heap.size < (tok3 w3 w.heap.size (.int .i64 4) (.string (S ct)) (.int .i64 at')).heap.size := by rw [tok3_size]; exact e5
      have q0 := (hB.cell (p := ⟨w.heap.size, 0, none⟩) hl3).trans q0
      have q1 := (hB.cell (p := ⟨w.heap.size, 1, none⟩) hl3).trans q1
      have q2 := (hB.cell (p := ⟨w.heap.size, 2, none⟩) hl3).trans q2
      have hF := HF.out
      unfold tok3 at q0 q1 q2 hF
      refine bodyPost_ret (v := tokV 4 ct at') ?_ rfl ⟨br, rfl, hF.1, HBR.out, hF.2⟩
      simp [results, Tryz.results51, go_sem, q0, q1, q2, tokV]
    · rw [qtok_unq, if_neg hq]
      have hun : unqR r = (S [], ((r.length - (body r).2.length + 1 : Nat) : Int), false) := by unfold unqR; rw [if_neg hq]
      rw [hun] at HU
      have HBR := Lib.hid (barr_new hr hq)
      generalize hnn : r.length - (body r).2.length + 1 = nn at *
      have hn2 : nn ≤ r.length + 1 := by omega
      have HN : Hid (∀ w1, Below (w.alloc zero3).heap.size (w.alloc zero3) w1 → Src w1 sb rb l at' br) := Lib.hid fun w1 hb => hSA.bel hb (Nat.le_refl _)
      have HR := Lib.hid HR
      have HU := Lib.hid HU
      clear h hG hAB hSA hbl hun hq
      unfold zero3 at HR HU c2 c3
      go_enter Tryz.func51, Tryz.ntmps51
      go_wp2_with fail
      go_region
      go_wp2_with fail
      go_at_call 55
      refine HR.out.mono ?_
      rintro e w1 ⟨rfl, rfl⟩
      go_wp2_with fail
      go_at_call 111
      refine HU.out.mono ?_
      rintro e w2 ⟨rfl, hb2⟩
      have HB2 := Lib.hid (HD.out.trans hb2); clear hb2
      have hs2 := HN.out w2 HB2.out
      have k2 := hs2.c2
      have k3 := hs2.c3
      have kf := hs2.fz 3
      have M := hs2.barren (at' + nn) (by omega)
      rw [Int.natCast_add] at M
      have HM := Lib.hid M
      have HT := Lib.hid ((take_any _ sb rb l at' (at' + nn) M.1 0 1 (by omega)).mono fun e w' (h : _ ∧ _ ∧ _) => (⟨by rw [h.1, hr]; rfl, h.2.1, ((Kp.ofBelow HB2.out (Nat.le_refl _)).trans M.2).trans h.2.2⟩ : e = .returned (tokV 0 [34] at') ∧ Src w' sb rb l (at' + 1) (at' + nn) ∧ Kp (w.alloc zero3) w' sb))
      clear hs2 M
      go_wp2_with fail
      go_at_call 56
      refine HT.out.mono ?_
      rintro e w3 ⟨rfl, hs3, hk3⟩
      obtain ⟨⟨z0, z1, z2⟩, ⟨f0, f1, f2⟩, e5⟩ := resZ hlt hk3
      have HE := Lib.hid (tokEnd hs3 hk3 hlt hrb)
      clear hs3 hk3
      unfold tokV
      go_wp2_with fail
      obtain ⟨⟨q0, q1, q2⟩, F⟩ := HE.out _ _ _
      unfold tok3 at q0 q1 q2 F
      refine bodyPost_ret (v := tokV 0 [34] at') ?_ rfl ⟨at' + nn, rfl, F.1, HBR.out, F.2⟩
      simp [results, Tryz.results51, go_sem, q0, q1, q2, tokV]
end Go.Proofs.YtdhdjfkknfbmhaaGreatDoor
