/- The iterator of joined. -/
import Derived.Test.YtdennlekjndfkaaCompact
import Derived.Test.YtdennlekjndfkaaMath5
namespace Go.Proofs.Ytdennlekjndfkaa
open Go.RowKit Go.Sort Go.Lib
attribute [local go_sem] Oper.semAt_some

set_option maxHeartbeats 400000 in
theorem valuesF_any (p : Option Addr) (n cap : Nat) (w : World) :
    Calls Try.prog 49 #[.slice p n cap] w fun e w' => e = .returned (.func (.func 58) #[] #[.pointer (some ⟨w.heap.size, 0, none⟩)]) ∧ w' = w.alloc (.cells #[.slice p n cap] 24) := by
  go_enter Try.func49, Try.ntmps49
  go_wp2
  go_ret
  exact ⟨rfl, rfl⟩

/-- What joined yields. -/
def joinS (l : List Sp) : List Sp := mergeL (ddS (sortS l))

set_option maxRecDepth 100000 in
set_option maxHeartbeats 2000000 in
theorem joined1_in (n : Nat) (hn : 1 ≤ n) (l Bs Bl B : Nat) (p : Option Addr) (cap : Nat) (zs : List Sp) (J Jx : List Sp → World → Prop) (W : World) (hJ : AbidesFrom W.heap.size J)
    (hY : ∀ pre x W1, J pre W1 → pre.length < (joinS zs).length → YieldAt Fence.wide (n - 1) Try.prog l #[.agg #[.int .i64 x.1, .int .i64 x.2]] W1 fun e W' =>
      (e = .returned (.bool true) ∧ J (pre ++ [x]) W' ∧ Kp Bl W1 W') ∨ (e = .returned (.bool false) ∧ Jx (pre ++ [x]) W'))
    (hBs : W.cell? ⟨Bs, 0, none⟩ = some (.slice p zs.length cap)) (hz : SpAt W B p zs) (hl : zs.length ≤ 1000000) (hb : ∀ x ∈ zs, Bd x) (hBl : Bl < W.heap.size) (hrb : rb Bl W < W.heap.size) (h0 : J [] W) :
    CallsIn Fence.wide n Try.prog 47 #[.func (.yield l) #[] #[], .pointer (some ⟨Bs, 0, none⟩)] W fun e W' => (∃ v, e = .returned v) ∧
      ((∃ ys, ys = joinS zs ∧ J ys W') ∨ (∃ pre, pre <+: joinS zs ∧ Jx pre W')) := by
  have hBsl : Bs < W.heap.size := World.block_lt_of_cell? _ ⟨Bs, 0, none⟩ hBs
  have HZ := Lib.hid hz
  have HJ0 := Lib.hid h0
  clear h0 hz
  refine callsIn_of_wp Try.func47 rfl trivial ?_ rfl
  simp only [Try.ntmps47, List.size_toArray, List.length_cons, List.length_nil, Nat.reduceAdd, Nat.reduceSub, Array.replicate_succ, Array.replicate_zero, List.push_toArray, List.append_toArray, List.nil_append, List.cons_append]
  gi_wp2_with fail
  refine ⟨trivial, ?_⟩
  refine (callsIn_wide.2 (valuesF_any p zs.length cap W)).mono ?_
  rintro e w1 ⟨rfl, rfl⟩
  have hb1 : Below W.heap.size W (W.alloc (.cells #[.slice p zs.length cap] 24)) := (Below.refl _ _).alloc (Nat.le_refl _) _
  have HS := Lib.hid (sorted_any W.heap.size p cap zs _ B (by simp) (by simp) (HZ.out.below hb1) hl)
  have HB1 := Lib.hid hb1
  clear hb1
  gi_wp2_with fail
  refine ⟨trivial, ?_⟩
  refine (callsIn_wide.2 HS.out).mono ?_
  rintro e w2 ⟨q, qc, rfl, hmut, ⟨hqc, hqc2⟩, hb2⟩
  have HM := Lib.hid hmut
  have HB2 := Lib.hid (HB1.out.trans (hb2.mono (by simp)))
  clear hb2 hmut
  gi_wp2_with fail
  refine ⟨trivial, ?_⟩
  rw [show zs.length = (sortS zs).length from (sortS_len zs).symm] at hqc ⊢
  refine (callsIn_wide.2 (compact_any q qc (sortS zs) _ _ HM.out hqc hqc2)).mono ?_
  rintro e w3 ⟨qc3, rfl, hsp3, hb3⟩
  have hB3 : Below W.heap.size W w3 := HB2.out.trans (hb3.mono (by simp))
  have hJ3 : J [] w3 := abides_below hJ HJ0.out hB3
  have hrb3 : rb Bl w3 = rb Bl W := rb_cell (hB3.cell (p := ⟨Bl, 0, none⟩) hBl)
  have hRd3 : Rd Bl w3 q (ddS (sortS zs)) := by
    refine ⟨hsp3.mono (Nat.zero_le _), fun hne a ha => ?_, Nat.lt_of_lt_of_le hBl hB3.size⟩
    obtain ⟨b, off, h1, h2, h3, _⟩ := hsp3.at' hne
    rw [h1] at ha
    obtain rfl := Option.some.inj ha
    simp at h2
    exact ⟨h3, by show b ≠ _; omega, by show b ≠ _; rw [hrb3]; omega⟩
  have HF : Hid (joinS zs = mergeL (ddS (sortS zs))) := rfl
  have hDb : ∀ x ∈ ddS (sortS zs), Bd x := fun x hx => hb x ((sortS_perm zs).mem_iff.1 ((ddS_mem _ _).1 hx))
  have hDl : (ddS (sortS zs)).length ≤ 1000000 := by
    have h1 := ddS_len_take (sortS zs) (sortS zs).length (Nat.le_refl _)
    rw [List.take_of_length_le (Nat.le_refl _)] at h1
    rw [sortS_len] at h1
    omega
  have hJB : AbidesFrom w3.heap.size J := fun s A C row hs hg hr => hJ s A C row hs hg (fun r e => ⟨Nat.le_trans hB3.size (hr r e).1, (hr r e).2⟩)
  clear hJ hB3 hrb3 hb3 hsp3 hrb hBl HM HB2 HB1 HS HJ0 HZ hBs hBsl
  generalize ddS (sortS zs) = D at *
  gi_wp2_with fail
  gi_loopw [4] (fun i wr => ∃ (k : Nat) (pre : List Sp), k ≤ D.length ∧ i = .int .i64 k ∧ J pre wr ∧ Hid (pre ++ mergeL (D.drop k) = joinS zs) ∧ Rd Bl wr q D) (fun i _ => D.length - (intOf i).toNat)
  case atStart => exact ⟨0, [], Nat.zero_le _, rfl, hJ3, HF.out.symm, hRd3⟩
  case round =>
    obtain ⟨k, pre, hk, rfl, hJs, HP, hR⟩ := hrel
    by_cases hlt : k < D.length
    · obtain ⟨b, off, rfl, _, hbs, hc⟩ := hR.at'.at' (by intro h; simp [h] at hlt)
      obtain ⟨c1, c2⟩ := hc k hlt
      have HC := Lib.hid hc
      have HDB := Lib.hid hDb
      have HRD := Lib.hid hR
      have HDR : Hid (D.drop k = D[k] :: D.drop (k + 1)) := List.drop_eq_getElem_cons hlt
      clear hc hDb hR hRd3
      generalize D[k] = x at *
      obtain ⟨wo, hwo⟩ : ∃ wo : World, wo = wr := ⟨_, rfl⟩
      subst hwo
      gi_wp2_with fail
      gi_loopw [4] (fun i wr2 => ∃ (j : Nat) (s : Sp), j ≤ D.length ∧ i = .int .i64 j ∧ Hid (run x (D.drop (k + 1)) = run s (D.drop j)) ∧ Bd s ∧ (wr2.cell? ⟨wo.heap.size, 0, none⟩ = some (.int .i64 s.1) ∧ wr2.cell? ⟨wo.heap.size, 1, none⟩ = some (.int .i64 s.2) ∧ ∀ o, wr2.frozen? ⟨wo.heap.size, o, none⟩ = false) ∧ Hid (Below wo.heap.size wo wr2) ∧ wo.heap.size < wr2.heap.size ∧ k < j) (fun i _ => D.length - (intOf i).toNat)
      case atStart =>
        exact ⟨k + 1, x, by omega, by go_num, rfl, HDB.out x (by have := HDR.out; exact List.mem_of_mem_drop (by rw [this]; simp)), ⟨by simp, by simp, by simp⟩, (Below.refl _ _).alloc (Nat.le_refl _) _, by simp, by omega⟩
      case round =>
        obtain ⟨j, s, hj, rfl, HRUN, hsb, ⟨f1, f2, f3⟩, HB, hsz, hkj⟩ := hrel
        have hsb' := hsb
        unfold Bd at hsb'
        by_cases hlt2 : j < D.length
        · obtain ⟨g1, g2⟩ := HC.out j hlt2
          have d1 := (HB.out.cell (p := ⟨b, off + j * 2, none⟩) hbs).trans g1
          have d2 := (HB.out.cell (p := ⟨b, off + j * 2 + 1, none⟩) hbs).trans g2
          have HDJ : Hid (D.drop j = D[j] :: D.drop (j + 1)) := List.drop_eq_getElem_cons hlt2
          have hy := HDB.out D[j] (List.getElem_mem hlt2)
          unfold Bd at hy
          clear g1 g2
          generalize D[j] = y at *
          by_cases hm : y.1 ≤ s.2 + 1
          · have HRG := Lib.hid (run_go s y (D.drop (j + 1)) hm)
            gi_wp2_with fail
            refine wpIn_wide.2 ?_
            go_quiet (fail)
            gi_wp2_with fail
            refine wpIn_wide.2 ?_
            go_region
            gi_wp2_with fail
            go_roundw
            case rel =>
              refine ⟨j + 1, (s.1, max s.2 y.2), by omega, by go_num, by show _ = _; rw [HRUN.out, HDJ.out, HRG.out], by unfold Bd; dsimp only; omega, ⟨by go_simp, by go_simp, fun o => by rw [World.frozen?_setCell]; exact f3 o⟩, (below_drewN HB.out _).setCell (Nat.le_refl _) _, by simpa using hsz, by omega⟩
            case measure => simp [intOf]; omega
          · have HST : Hid (run s (D.drop j) = (s, D.drop j)) := by show _ = _; rw [HDJ.out]; exact run_stop s y _ hm
            have hms := merge_step pre (joinS zs) x s (D.drop (k + 1)) (D.drop j) (by rw [← HDR.out]; exact HP.out) HRUN.out HST.out
            have HMS := Lib.hid hms
            clear hms
            gi_wp2_with fail
            refine wpIn_wide.2 ?_
            go_quiet (fail)
            obtain ⟨fn, tmps, assign, body, hy2, hRo⟩ := hY pre s (wr.drewN nq) (abides_below hJB hJs (below_drewN HB.out _)) HMS.out.2
            gi_wp2_with fail
            refine hRo.mono ?_
            rintro e W3 (⟨rfl, hJ4, hk4⟩ | ⟨rfl, hJx4⟩)
            · gi_wp2_with fail
              go_roundw
              case rel => exact ⟨j, pre ++ [s], hj, rfl, hJ4, HMS.out.1, (HRD.out.below (below_drewN HB.out _)).kp hk4⟩
              case measure => simp [intOf]; omega
            · gi_wp2_with fail
              refine bodyPost_ret (results_none rfl _ _ _) rfl ?_
              exact ⟨⟨_, rfl⟩, .inr ⟨_, ⟨_, HMS.out.1⟩, hJx4⟩⟩
        · have HDE : Hid (D.drop j = []) := List.drop_of_length_le (by omega)
          have HST : Hid (run s (D.drop j) = (s, D.drop j)) := by show _ = _; rw [HDE.out]; rfl
          have hms := merge_step pre (joinS zs) x s (D.drop (k + 1)) (D.drop j) (by rw [← HDR.out]; exact HP.out) HRUN.out HST.out
          have HMS := Lib.hid hms
          clear hms
          gi_wp2_with fail
          refine wpIn_wide.2 ?_
          go_quiet (fail)
          obtain ⟨fn, tmps, assign, body, hy2, hRo⟩ := hY pre s (wr.drewN nq) (abides_below hJB hJs (below_drewN HB.out _)) HMS.out.2
          gi_wp2_with fail
          refine hRo.mono ?_
          rintro e W3 (⟨rfl, hJ4, hk4⟩ | ⟨rfl, hJx4⟩)
          · gi_wp2_with fail
            go_roundw
            case rel => exact ⟨j, pre ++ [s], hj, rfl, hJ4, HMS.out.1, (HRD.out.below (below_drewN HB.out _)).kp hk4⟩
            case measure => simp [intOf]; omega
          · gi_wp2_with fail
            refine bodyPost_ret (results_none rfl _ _ _) rfl ?_
            exact ⟨⟨_, rfl⟩, .inr ⟨_, ⟨_, HMS.out.1⟩, hJx4⟩⟩
    · have HPE := HP.out
      rw [List.drop_of_length_le (by omega), mergeL_nil, List.append_nil] at HPE
      have HPE2 := Lib.hid HPE
      clear HPE
      gi_wp2_with fail
      go_end0
      exact ⟨⟨_, rfl⟩, .inl ⟨_, HPE2.out, hJs⟩⟩

theorem joined_stops (n : Nat) (hn : 1 ≤ n) (Bs Bl B : Nat) (p : Option Addr) (cap : Nat) (zs : List Sp) (w : World) (hBs : w.cell? ⟨Bs, 0, none⟩ = some (.slice p zs.length cap)) (hz : SpAt w B p zs) (hl : zs.length ≤ 1000000) (hb : ∀ x ∈ zs, Bd x) (hBl : Bl < w.heap.size) (hrb : rb Bl w < w.heap.size) :
    SeqStopsK Fence.wide n Try.prog 47 #[.pointer (some ⟨Bs, 0, none⟩)] enc1 (Kp Bl) (fun ys => ys = joinS zs) (fun pre => pre <+: joinS zs) (joinS zs).length w := by
  intro l J Jx W hW hJ hJx hY h0
  have hBsl : Bs < w.heap.size := World.block_lt_of_cell? _ ⟨Bs, 0, none⟩ hBs
  have e : rb Bl W = rb Bl w := rb_cell (hW.cell (p := ⟨Bl, 0, none⟩) hBl)
  have := hW.size
  exact joined1_in n hn l Bs Bl B p cap zs J Jx W hJ hY ((hW.cell (p := ⟨Bs, 0, none⟩) hBsl).trans hBs) (hz.below hW) hl hb (by omega) (by omega) h0

set_option maxHeartbeats 400000 in
theorem joinedF_any (p : Option Addr) (n cap : Nat) (w : World) :
    Calls Try.prog 34 #[.slice p n cap] w fun e w' => e = .returned (.func (.func 47) #[] #[.pointer (some ⟨w.heap.size, 0, none⟩)]) ∧ w' = w.alloc (.cells #[.slice p n cap] 24) := by
  go_enter Try.func34, Try.ntmps34
  go_wp2
  go_ret
  exact ⟨rfl, rfl⟩
end Go.Proofs.Ytdennlekjndfkaa
