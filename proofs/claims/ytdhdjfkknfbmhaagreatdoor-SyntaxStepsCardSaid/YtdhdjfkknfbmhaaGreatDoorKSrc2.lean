/- The source's readers of words, numbers and signs. -/
import Derived.Test.YtdhdjfkknfbmhaaGreatDoorKSrc
namespace Go.Proofs.YtdhdjfkknfbmhaaGreatDoor
open Go.RowKit

def zero3 : Obj := .cells #[.int .i64 0, .string ⟨#[]⟩, .int .i64 0] 57
/-- The place of the result, behind calls that write the source alone. -/
theorem resZ {w w3 : World} {sb : Nat} (hs : sb < w.heap.size) (hk : Kp (w.alloc zero3) w3 sb) :
    (w3.cell? ⟨w.heap.size, 0, none⟩ = some (.int .i64 0) ∧ w3.cell? ⟨w.heap.size, 1, none⟩ = some (.string ⟨#[]⟩) ∧ w3.cell? ⟨w.heap.size, 2, none⟩ = some (.int .i64 0)) ∧
    (w3.frozen? ⟨w.heap.size, 0, none⟩ = false ∧ w3.frozen? ⟨w.heap.size, 1, none⟩ = false ∧ w3.frozen? ⟨w.heap.size, 2, none⟩ = false) ∧ w.heap.size < w3.heap.size := by
  have hb : w3.heap[w.heap.size]? = (w.alloc zero3).heap[w.heap.size]? := hk.block _ (by simp) (by omega)
  have hc := fun o => World.cell?_of_block (a := ⟨w.heap.size, o, none⟩) hb
  have hf := fun o => World.frozen?_of_block (a := ⟨w.heap.size, o, none⟩) hb
  refine ⟨⟨(hc 0).trans (by simp [go_sem, zero3]), (hc 1).trans (by simp [go_sem, zero3]), (hc 2).trans (by simp [go_sem, zero3])⟩, ⟨(hf 0).trans (by simp [go_sem, zero3]), (hf 1).trans (by simp [go_sem, zero3]), (hf 2).trans (by simp [go_sem, zero3])⟩, ?_⟩
  have := hk.size
  simp at this
  omega
theorem resK {w w3 : World} {sb : Nat} (hk : Kp (w.alloc zero3) w3 sb) : Kp w w3 sb := (Kp.ofBelow ((Below.refl w.heap.size w).alloc (Nat.le_refl _) zero3) (Nat.le_refl _)).trans hk

theorem numberKind_any (l : Bs) (hb : l.length ≤ 1000000) (w : World) (hG : Gl w) :
    Calls Tryz.prog 109 #[.string (S l)] w fun e w' => e = .returned (.int .i64 (if int l = true then 2 else if (timeV l).isSome = true then 3 else 0)) ∧ Below w.heap.size w w' := by
  have HI := Lib.hid (isInteger_any l (by omega) w hG)
  have HT : Hid (∀ w1, Below w.heap.size w w1 → Calls Tryz.prog 59 #[.string (S l)] w1 fun e w' => e = .returned (.bool (timeV l).isSome) ∧ Below w1.heap.size w1 w') := Lib.hid fun w1 h => isTime_any l hb w1 (hG.bel' h)
  clear hG
  generalize int l = a at *
  generalize (timeV l).isSome = b at *
  generalize S l = s at *
  go_enter Tryz.func109, Tryz.ntmps109
  go_wp2_with fail
  go_at_call 58
  refine HI.out.mono ?_
  rintro e w1 ⟨rfl, hb1⟩
  have HB := Lib.hid hb1; clear hb1
  cases a with
  | true =>
    go_wp2_with fail
    go_ret
    exact ⟨rfl, HB.out⟩
  | false =>
    cases b with
    | true =>
      go_wp2_with fail
      go_at_call 59
      refine (HT.out _ HB.out).mono ?_
      rintro e w2 ⟨rfl, hb2⟩
      have HB2 := Lib.hid (HB.out.trans (hb2.mono HB.out.size)); clear hb2
      go_wp2_with fail
      go_ret
      exact ⟨rfl, HB2.out⟩
    | false =>
      go_wp2_with fail
      go_at_call 59
      refine (HT.out _ HB.out).mono ?_
      rintro e w2 ⟨rfl, hb2⟩
      have HB2 := Lib.hid (HB.out.trans (hb2.mono HB.out.size)); clear hb2
      go_wp2_with fail
      go_ret
      exact ⟨rfl, HB2.out⟩

/-- The end of a reader of the source. -/
theorem tokEnd {w w3 : World} {sb rb : Nat} {l : Bs} {a br : Nat} (hs : Src w3 sb rb l a br) (hk : Kp (w.alloc zero3) w3 sb) (hlt : sb < w.heap.size) (hrb : rb < w.heap.size) (v0 v1 v2 : Value) :
    ((tok3 w3 w.heap.size v0 v1 v2).cell? ⟨w.heap.size, 0, none⟩ = some v0 ∧ (tok3 w3 w.heap.size v0 v1 v2).cell? ⟨w.heap.size, 1, none⟩ = some v1 ∧ (tok3 w3 w.heap.size v0 v1 v2).cell? ⟨w.heap.size, 2, none⟩ = some v2) ∧
    Src (tok3 w3 w.heap.size v0 v1 v2) sb rb l a br ∧ Kp w (tok3 w3 w.heap.size v0 v1 v2) sb := by
  obtain ⟨⟨z0, z1, z2⟩, _, _⟩ := resZ hlt hk
  exact ⟨tok3_cells v0 v1 v2 z0 z1 z2, tok3_src hs (by omega) (by omega) _ _ _, tok3_kp (resK hk) (Nat.le_refl _) _ _ _⟩
theorem drop_len {l : Bs} {at' : Nat} {c : UInt8} {r : Bs} (hr : l.drop at' = c :: r) (hle : at' ≤ l.length) : at' + (r.length + 1) = l.length := by
  have h1 := congrArg List.length hr
  rw [List.length_drop, List.length_cons] at h1
  omega

set_option maxHeartbeats 2000000 in
set_option maxRecDepth 100000 in
theorem srcWord_any (w : World) (hG : Gl w) (sb rb : Nat) (l : Bs) (at' br : Nat) (h : Src w sb rb l at' br) (c : UInt8) (r : Bs) (hr : l.drop at' = c :: r) :
    Calls Tryz.prog 47 #[.pointer (some ⟨sb, 0, none⟩)] w fun e w' => e = .returned (tokV (1) ((c :: r).take (wdLen r + 1)) at') ∧ Src w' sb rb l (at' + (wdLen r + 1)) br ∧ Kp w w' sb := by
  have hlt := h.lt
  have hrb := h.rlt
  have hdl := drop_len hr h.le
  have hl8 := h.len
  have hn := wdLen_le r
  have hr8 : r.length ≤ 100000 := by omega
  generalize htk : (c :: r).take (wdLen r + 1) = tk
  generalize hkd : (1 : Int) = kd
  have hAB := (Below.refl w.heap.size w).alloc (Nat.le_refl _) zero3
  have HG := Lib.hid (hG.bel' hAB)
  have HR := Lib.hid (rest_any _ _ _ _ _ _ (h.alloc zero3))
  have HW := wordLength_any c r hr8 _ ((hG.bel' hAB).bel' (Below.refl _ _).drew)
  generalize hnn : wdLen r + 1 = nn at *
  have HT : Hid (∀ w1, Below (w.alloc zero3).heap.size (w.alloc zero3) w1 → Calls Tryz.prog 56 #[.pointer (some ⟨sb, 0, none⟩), .int .i64 kd, .int .i64 nn] w1 fun e w' => e = .returned (tokV kd tk at') ∧ Src w' sb rb l (at' + nn) br ∧ Kp (w.alloc zero3) w' sb) := Lib.hid fun w1 hb =>
    (take_any w1 sb rb l at' br ((h.alloc zero3).bel hb (Nat.le_refl _)) kd nn (by omega)).mono fun e w' ⟨h1, h2, h3⟩ => ⟨by rw [h1, hr, htk], h2, (Kp.ofBelow hb (Nat.le_refl _)).trans h3⟩
  rw [hr] at HR
  have HW := Lib.hid HW
  clear hn htk
  unfold zero3 at HW
  subst hkd
  clear h hG hAB
  generalize hcr : c :: r = cr at *
  clear hcr
  unfold zero3 at HR
  go_enter Tryz.func47, Tryz.ntmps47
  go_wp2_with fail
  go_at_call 55
  refine HR.out.mono ?_
  rintro e w1 ⟨rfl, rfl⟩
  go_wp2_with fail
  go_at_call 106
  refine HW.out.mono ?_
  rintro e w2 ⟨rfl, rfl⟩
  go_wp2_with fail
  go_at_call 56
  refine (HT.out _ (by exact (Below.refl _ _).drew)).mono ?_
  rintro e w3 ⟨rfl, hs3, hk3⟩
  obtain ⟨⟨z0, z1, z2⟩, ⟨f0, f1, f2⟩, e5⟩ := resZ hlt hk3
  have HE := Lib.hid (tokEnd hs3 hk3 hlt hrb)
  clear hs3 hk3
  unfold tokV
  go_wp2_with fail
  obtain ⟨⟨q0, q1, q2⟩, F⟩ := HE.out _ _ _
  unfold tok3 at q0 q1 q2 F
  refine bodyPost_ret (v := tokV _ _ _) ?_ rfl ⟨rfl, F⟩
  simp [results, Tryz.results47, go_sem, q0, q1, q2, tokV]

set_option maxHeartbeats 2000000 in
set_option maxRecDepth 100000 in
theorem srcNumber_any (w : World) (hG : Gl w) (sb rb : Nat) (l : Bs) (at' br : Nat) (h : Src w sb rb l at' br) (c : UInt8) (r : Bs) (hr : l.drop at' = c :: r) :
    Calls Tryz.prog 49 #[.pointer (some ⟨sb, 0, none⟩)] w fun e w' => e = .returned (tokV (if int ((c :: r).take (numLen r + 1)) = true then 2 else if (timeV ((c :: r).take (numLen r + 1))).isSome = true then 3 else 0) ((c :: r).take (numLen r + 1)) at') ∧ Src w' sb rb l (at' + (numLen r + 1)) br ∧ Kp w w' sb := by
  have hlt := h.lt
  have hrb := h.rlt
  have hdl := drop_len hr h.le
  have hl8 := h.len
  have hn := numLen_le r
  have hr8 : r.length ≤ 100000 := by omega
  have hnk : (c :: r).length = r.length + 1 := rfl
  generalize htk : (c :: r).take (numLen r + 1) = tk
  generalize hkd : (if int tk = true then (2 : Int) else if (timeV tk).isSome = true then 3 else 0) = kd
  have hAB := (Below.refl w.heap.size w).alloc (Nat.le_refl _) zero3
  have HG := Lib.hid (hG.bel' hAB)
  have HR := Lib.hid (rest_any _ _ _ _ _ _ (h.alloc zero3))
  have HW := numberLength_any c r hr8 _ ((hG.bel' hAB).bel' (Below.refl _ _).drew)
  have HK := numberKind_any tk (by rw [← htk, List.length_take]; omega) _ ((hG.bel' hAB).bel' (Below.refl _ _).drew)
  rw [hkd] at HK
  generalize hnn : numLen r + 1 = nn at *
  have hsz := S_size (c :: r)
  rw [hnk] at hsz
  have HX : Hid ((S (c :: r)).extract 0 nn = S tk) := Lib.hid (by rw [S_extract, htk]; rfl)
  have HT : Hid (∀ w1, Below (w.alloc zero3).heap.size (w.alloc zero3) w1 → Calls Tryz.prog 56 #[.pointer (some ⟨sb, 0, none⟩), .int .i64 kd, .int .i64 nn] w1 fun e w' => e = .returned (tokV kd tk at') ∧ Src w' sb rb l (at' + nn) br ∧ Kp (w.alloc zero3) w' sb) := Lib.hid fun w1 hb =>
    (take_any w1 sb rb l at' br ((h.alloc zero3).bel hb (Nat.le_refl _)) kd nn (by omega)).mono fun e w' ⟨h1, h2, h3⟩ => ⟨by rw [h1, hr, htk], h2, (Kp.ofBelow hb (Nat.le_refl _)).trans h3⟩
  rw [hr] at HR
  have HW := Lib.hid HW
  rw [← HX.out] at HK
  have HK := Lib.hid HK
  have hn0 : (0 : Int) ≤ (nn : Int) := by omega
  have hn1 : (nn : Int) ≤ (r.length : Int) + 1 := by omega
  clear hn htk hnk hkd
  unfold zero3 at HW HK
  clear h hG hAB
  generalize hcr : c :: r = cr at *
  clear hcr
  unfold zero3 at HR
  go_enter Tryz.func49, Tryz.ntmps49
  go_wp2_with fail
  go_at_call 55
  refine HR.out.mono ?_
  rintro e w1 ⟨rfl, rfl⟩
  go_wp2_with fail
  go_at_call 108
  refine HW.out.mono ?_
  rintro e w2 ⟨rfl, rfl⟩
  go_wp2_with fail
  go_at_call 109
  refine HK.out.mono ?_
  rintro e w2 ⟨rfl, hb2⟩
  have HB2 := Lib.hid ((Below.refl _ _).drew.trans hb2); clear hb2
  go_wp2_with fail
  go_at_call 56
  refine (HT.out _ (by exact HB2.out)).mono ?_
  rintro e w3 ⟨rfl, hs3, hk3⟩
  obtain ⟨⟨z0, z1, z2⟩, ⟨f0, f1, f2⟩, e5⟩ := resZ hlt hk3
  have HE := Lib.hid (tokEnd hs3 hk3 hlt hrb)
  clear hs3 hk3
  unfold tokV
  go_wp2_with fail
  obtain ⟨⟨q0, q1, q2⟩, F⟩ := HE.out _ _ _
  unfold tok3 at q0 q1 q2 F
  refine bodyPost_ret (v := tokV _ _ _) ?_ rfl ⟨rfl, F⟩
  simp [results, Tryz.results49, go_sem, q0, q1, q2, tokV]

set_option maxHeartbeats 2000000 in
set_option maxRecDepth 100000 in
theorem srcSign_any (w : World) (hG : Gl w) (sb rb : Nat) (l : Bs) (at' br : Nat) (h : Src w sb rb l at' br) (c : UInt8) (r : Bs) (hr : l.drop at' = c :: r) :
    Calls Tryz.prog 53 #[.pointer (some ⟨sb, 0, none⟩)] w fun e w' => e = .returned (tokV (5) (sgn (c :: r)) at') ∧ Src w' sb rb l (at' + ((sgn (c :: r)).length)) br ∧ Kp w w' sb := by
  have hlt := h.lt
  have hrb := h.rlt
  have hdl := drop_len hr h.le
  have hl8 := h.len
  have hpre := sgn_pre (c :: r)
  have hn : (sgn (c :: r)).length ≤ r.length + 1 := hpre.length_le
  have hr8 : (c :: r).length ≤ 100000 := by rw [List.length_cons]; omega
  have htk : (c :: r).take (sgn (c :: r)).length = sgn (c :: r) := (List.prefix_iff_eq_take.1 hpre).symm
  generalize htk0 : sgn (c :: r) = tk at *
  generalize hkd : (5 : Int) = kd
  have hAB := (Below.refl w.heap.size w).alloc (Nat.le_refl _) zero3
  have HG := Lib.hid (hG.bel' hAB)
  have HR := Lib.hid (rest_any _ _ _ _ _ _ (h.alloc zero3))
  have HW := firstSign_any (c :: r) hr8 _ ((hG.bel' hAB).bel' (Below.refl _ _).drew)
  rw [htk0] at HW
  have hsz := S_size tk
  generalize hnn : tk.length = nn at *
  have HT : Hid (∀ w1, Below (w.alloc zero3).heap.size (w.alloc zero3) w1 → Calls Tryz.prog 56 #[.pointer (some ⟨sb, 0, none⟩), .int .i64 kd, .int .i64 nn] w1 fun e w' => e = .returned (tokV kd tk at') ∧ Src w' sb rb l (at' + nn) br ∧ Kp (w.alloc zero3) w' sb) := Lib.hid fun w1 hb =>
    (take_any w1 sb rb l at' br ((h.alloc zero3).bel hb (Nat.le_refl _)) kd nn (by omega)).mono fun e w' ⟨h1, h2, h3⟩ => ⟨by rw [h1, hr, htk], h2, (Kp.ofBelow hb (Nat.le_refl _)).trans h3⟩
  rw [hr] at HR
  have HW := Lib.hid HW
  clear hn htk hpre hr8 htk0
  unfold zero3 at HW
  subst hkd
  clear h hG hAB
  generalize hcr : c :: r = cr at *
  clear hcr
  unfold zero3 at HR
  go_enter Tryz.func53, Tryz.ntmps53
  go_wp2_with fail
  go_at_call 55
  refine HR.out.mono ?_
  rintro e w1 ⟨rfl, rfl⟩
  go_wp2_with fail
  go_at_call 112
  refine HW.out.mono ?_
  rintro e w2 ⟨rfl, hb2⟩
  have HB2 := Lib.hid ((Below.refl _ _).drew.trans hb2); clear hb2
  go_wp2_with fail
  go_at_call 56
  refine (HT.out _ (by exact HB2.out)).mono ?_
  rintro e w3 ⟨rfl, hs3, hk3⟩
  obtain ⟨⟨z0, z1, z2⟩, ⟨f0, f1, f2⟩, e5⟩ := resZ hlt hk3
  have HE := Lib.hid (tokEnd hs3 hk3 hlt hrb)
  clear hs3 hk3
  unfold tokV
  go_wp2_with fail
  obtain ⟨⟨q0, q1, q2⟩, F⟩ := HE.out _ _ _
  unfold tok3 at q0 q1 q2 F
  refine bodyPost_ret (v := tokV _ _ _) ?_ rfl ⟨rfl, F⟩
  simp [results, Tryz.results53, go_sem, q0, q1, q2, tokV]
end Go.Proofs.YtdhdjfkknfbmhaaGreatDoor
