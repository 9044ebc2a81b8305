/- The specification's Decode. -/
import Derived.Test.YtopkpdaingmmeaaVRdr8
import Derived.Test.YtopkpdaingmmeaaVRefEnc2
import Derived.Test.YtopkpdaingmmeaaVLaw
import Derived.Deep.RegionHeld
namespace Go.Proofs.Ytopkpdaingmmeaa
open Go.RowKit

theorem wr4_below {w w1 : World} {n b : Nat} (v0 v1 v2 v3 : Value) (h : Below n w w1) (hb : n ≤ b) : Below n w (wr4 w1 b v0 v1 v2 v3) := by
  unfold wr4
  exact (((h.setCell (p := ⟨b, 0, none⟩) hb _).setCell (p := ⟨b, 1, none⟩) hb _).setCell (p := ⟨b, 2, none⟩) hb _).setCell (p := ⟨b, 3, none⟩) hb _
theorem decV_none {bs : List UInt8} (h : rdV 16 bs = none) : decV bs = .mk 0 0 ⟨#[]⟩ [] ∧ decE bs = 20 := by unfold decV decE; rw [h]; exact ⟨rfl, rfl⟩
theorem decV_more {bs : List UInt8} {v : V} {r : List UInt8} (h : rdV 16 bs = some (v, r)) (hr : r ≠ []) : decV bs = .mk 0 0 ⟨#[]⟩ [] ∧ decE bs = 20 := by
  unfold decV decE; rw [h]
  cases r with
  | nil => exact absurd rfl hr
  | cons a r => exact ⟨rfl, rfl⟩
theorem decV_all {bs : List UInt8} {v : V} (h : rdV 16 bs = some (v, [])) : decV bs = v ∧ decE bs = 0 ∧ Good 16 v ∧ bs = enc v := by
  obtain ⟨h1, h2⟩ := (rdV_iff 16 bs v []).1 h
  exact ⟨by unfold decV; rw [h], by unfold decE; rw [h], h1, by rw [h2, List.append_nil]⟩

theorem Zb.bel {w w' : World} {b : Nat} (h : Zb w b) (hb : Below w.heap.size w w') : Zb w' b := by
  obtain ⟨⟨a0, a1, a2, a3⟩, ⟨f0, f1, f2, f3⟩, hlt⟩ := h
  have hc := fun o => World.cell?_of_block (a := ⟨b, o, none⟩) (hb.block b hlt)
  have hf := fun o => World.frozen?_of_block (a := ⟨b, o, none⟩) (hb.block b hlt)
  exact ⟨⟨(hc 0).trans a0, (hc 1).trans a1, (hc 2).trans a2, (hc 3).trans a3⟩, ⟨(hf 0).trans f0, (hf 1).trans f1, (hf 2).trans f2, (hf 3).trans f3⟩, Nat.lt_of_lt_of_le hlt hb.size⟩

/-- What stands in Decode's last test. -/
theorem keepD {W w9 : World} {lo rb vb B : Nat} {p : Option Addr} {cap : Nat} {bs : List UInt8} {k n : Int} {s : ByteArray} {sl : Value} (hr : Rdr W lo rb p cap bs bs.length false) (hx : Box W vb k n s sl) (hp : BAt W B p bs) (h : Below W.heap.size W w9) :
    w9.cell? ⟨rb, 1, none⟩ = some (.int .i64 bs.length) ∧ w9.cell? ⟨rb, 2, none⟩ = some (.bool false) ∧ w9.cell? ⟨vb, 0, none⟩ = some (.int .i64 k) ∧ w9.cell? ⟨vb, 1, none⟩ = some (.int .i64 n) ∧ w9.cell? ⟨vb, 2, none⟩ = some (.string s) ∧ w9.cell? ⟨vb, 3, none⟩ = some sl ∧ (convert 27 9 (.slice p bs.length cap)).run Try.prog w9 = .ok (.string ⟨bs.toArray⟩) w9 ∧ Hid (Below W.heap.size W w9) := by
  obtain ⟨_, a0, a1, a2, a3⟩ := hx.bel h hx.lt
  have hr9 := hr.bel h (Nat.le_refl _)
  exact ⟨hr9.c1, hr9.c2, a0, a1, a2, a3, strOf (hp.below h) cap, Lib.hid h⟩
theorem heldD {W w9 : World} {rb vb : Nat} {p : Option Addr} {cap : Nat} {bs : List UInt8} {k n : Int} {s : ByteArray} {sl : Value}
    (h : w9.cell? ⟨rb, 1, none⟩ = some (.int .i64 bs.length) ∧ w9.cell? ⟨rb, 2, none⟩ = some (.bool false) ∧ w9.cell? ⟨vb, 0, none⟩ = some (.int .i64 k) ∧ w9.cell? ⟨vb, 1, none⟩ = some (.int .i64 n) ∧ w9.cell? ⟨vb, 2, none⟩ = some (.string s) ∧ w9.cell? ⟨vb, 3, none⟩ = some sl ∧ (convert 27 9 (.slice p bs.length cap)).run Try.prog w9 = .ok (.string ⟨bs.toArray⟩) w9 ∧ Hid (Below W.heap.size W w9)) : Below W.heap.size W w9 := h.2.2.2.2.2.2.2.out

set_option maxHeartbeats 8000000 in
set_option maxRecDepth 100000 in
theorem refDecode_any (bs : List UInt8) (hlen : bs.length ≤ 1000000000) (w : World) (B : Nat) (p : Option Addr) (cap : Nat) (hp : BAt w B p bs) (hc : bs.length ≤ cap) :
    Calls Try.prog 19 #[.slice p bs.length cap] w fun e w' => Below w.heap.size w w' ∧ ∃ q c, e = .returned (.tuple #[vV (decV bs) q c, .int .i64 (decE bs)]) ∧ VIn w' (w.heap.size ≤ ·) (decV bs) q c := by
  go_enter Try.func19, Try.ntmps19
  go_wp2_with fail
  go_at_call 36
  have hB : Below w.heap.size w ((w.alloc zbox).alloc (.cells #[.slice p bs.length cap, .int .i64 0, .bool false] 59)) :=
    ((Below.refl w.heap.size w).alloc (Nat.le_refl _) _).alloc (by simp) _
  have hR : Rdr ((w.alloc zbox).alloc (.cells #[.slice p bs.length cap, .int .i64 0, .bool false] 59)) w.heap.size (w.heap.size + 1) p cap bs 0 false := by
    refine ⟨Nat.le_succ _, by simp, by simp [go_sem], by simp [go_sem], by simp [go_sem], by simp [go_sem], by simp [go_sem], Nat.zero_le _, by omega, hc, fun hne => ?_⟩
    obtain ⟨b, off, e1, _, e2, e3⟩ := hp.at' hne
    exact ⟨b, off, e1, e2, fun i hi => (hB.cell (p := ⟨b, off + i, none⟩) e2).trans (e3 i hi)⟩
  have hZ : Zb ((w.alloc zbox).alloc (.cells #[.slice p bs.length cap, .int .i64 0, .bool false] 59)) w.heap.size :=
    (Zb.new w).kept (Kept.alloc _ (w.heap.size + 1) none _) (by omega)
  have hS : ((w.alloc zbox).alloc (.cells #[.slice p bs.length cap, .int .i64 0, .bool false] 59)).heap.size = w.heap.size + 2 := by simp
  generalize (w.alloc zbox).alloc (.cells #[.slice p bs.length cap, .int .i64 0, .bool false] 59) = W1 at *
  refine (readR_any 16 0 rfl W1 w.heap.size (w.heap.size + 1) p cap bs 0 hR).mono ?_
  rintro e w2 ⟨hk, v, q, c, rfl, hv, hm⟩
  rw [List.drop_zero] at hm
  have HZ2 := Lib.hid (hZ.kept hk (by omega))
  have HB2 := Lib.hid (hB.trans (hk.below (lo := w.heap.size) (Nat.le_succ _) (fun k e => by cases e) (by omega)))
  have hsz := hk.size
  have hat := hv.at (B := W1.heap.size) (fun _ h => h)
  have hZ2 := hZ.kept hk (by omega)
  clear hB hR hZ hk
  by_cases hyes : ∃ u, rdV 16 bs = some (u, [])
  · obtain ⟨u, hyes⟩ := hyes
    rw [hyes] at hm
    obtain ⟨rfl, at2, hat2, hr⟩ := hm
    obtain rfl : at2 = bs.length := Nat.le_antisymm hr.le (Nat.le_of_not_lt fun h => by
      have := congrArg List.length hat2
      rw [List.length_drop, List.length_nil] at this
      omega)
    obtain ⟨hdv, hde, hg, hbe⟩ := decV_all hyes
    have hbo := fun o => (Below.refl w2.heap.size w2).alloc (Nat.le_refl _) o
    have hr3 := hr.bel (hbo (.cells #[.int .i64 v.k, .int .i64 v.n, .string v.s, .slice q v.l.length c] 24)) (Nat.le_refl _)
    have hx3 := Box.new w2 v.k v.n v.s (.slice q v.l.length c)
    have hz3 := hZ2.kept (Kept.alloc w2 (w.heap.size + 1) none (.cells #[.int .i64 v.k, .int .i64 v.n, .string v.s, .slice q v.l.length c] 24)) (by omega)
    have hb3 := HB2.out.alloc HB2.out.size (.cells #[.int .i64 v.k, .int .i64 v.n, .string v.s, .slice q v.l.length c] 24)
    have hv3 := hv.keep (w' := w2.alloc (.cells #[.int .i64 v.k, .int .i64 v.n, .string v.s, .slice q v.l.length c] 24)) (ok' := (w.heap.size + 2 ≤ ·)) (hbo _).size fun b hb hbl => ⟨by omega, Below.heap_alloc w2 _ b hbl⟩
    have hvb : w2.heap.size < (w2.alloc (.cells #[.int .i64 v.k, .int .i64 v.n, .string v.s, .slice q v.l.length c] 24)).heap.size := by simp
    have hvz : w.heap.size + 1 < w2.heap.size := by omega
    have HBQ := Lib.hid hbe
    have HDV := Lib.hid (And.intro hdv hde)
    have HG := Lib.hid hg
    clear hbe hdv hde hg hyes
    unfold vV
    go_wp2_with fail
    clear hbo hr hat2 hat hv hZ2 HB2 hsz
    generalize w2.alloc (.cells #[.int .i64 v.k, .int .i64 v.n, .string v.s, .slice q v.l.length c] 24) = w3 at *
    generalize w2.heap.size = vb at *
    have hp3 := hp.below hb3
    have HCHK : Hid (∀ wr, Below w3.heap.size w3 wr → Calls Try.prog 17 #[.agg #[.int .i64 v.k, .int .i64 v.n, .string v.s, .slice q v.l.length c]] wr fun e w' => e = .returned (.int .i64 0) ∧ Below wr.heap.size wr w') := Lib.hid fun wr hb => by
      have := refCheck_any v (by have := good_rank HG.out; omega) wr 0 q c ((hv3.at (B := 0) (fun _ _ => Nat.zero_le _)).bel hb)
      rwa [errV_good HG.out] at this
    have HENC : Hid (∀ wr, Below w3.heap.size w3 wr → Calls Try.prog 29 #[.agg #[.int .i64 v.k, .int .i64 v.n, .string v.s, .slice q v.l.length c]] wr fun e w' => Below wr.heap.size wr w' ∧ ∃ q m c, e = .returned (.slice q m c) ∧ (convert 27 9 (.slice q m c)).run Try.prog w' = .ok (.string ⟨bs.toArray⟩) w') := Lib.hid fun wr hb =>
      (refEncode_rank 17 v (good_rank HG.out) (by rw [← HBQ.out]; omega) wr 0 q c ((hv3.at (B := 0) (fun _ _ => Nat.zero_le _)).bel hb)).mono fun e w' ⟨r, h1, h2, h3⟩ => by
        rw [← HBQ.out] at h2
        obtain ⟨qe, me, ce, rfl, hq, rfl⟩ := h2.reads (by omega)
        exact ⟨h3, qe, _, ce, h1, strOf hq ce⟩
    have HR3 := Lib.hid hr3
    have HX3 := Lib.hid hx3
    have HZ3 := Lib.hid hz3
    have HB3 := Lib.hid hb3
    have HV3 := Lib.hid hv3
    have HP3 := Lib.hid hp3
    have HBE := Lib.hid (Below.refl w3.heap.size w3)
    clear hr3 hx3 hz3 hb3 hv3 hp3 hp
    have HEQ : Hid (∃ vk vn vs vl, v.k = vk ∧ v.n = vn ∧ v.s = vs ∧ v.l.length = vl) := Lib.hid ⟨_, _, _, _, rfl, rfl, rfl, rfl⟩
    obtain ⟨vk, vn, vs, vl, e1, e2, e3, e4⟩ := HEQ.out
    rw [e1, e2, e3, e4] at HCHK HENC HX3
    rw [e1, e2, e3, e4]
    have HEQ2 := Lib.hid (And.intro e1 (And.intro e2 (And.intro e3 e4)))
    clear HEQ e1 e2 e3 e4
    go_region_held (fun w' => w'.cell? ⟨w.heap.size + 1, 1, none⟩ = some (.int .i64 bs.length) ∧ w'.cell? ⟨w.heap.size + 1, 2, none⟩ = some (.bool false) ∧ w'.cell? ⟨vb, 0, none⟩ = some (.int .i64 vk) ∧ w'.cell? ⟨vb, 1, none⟩ = some (.int .i64 vn) ∧ w'.cell? ⟨vb, 2, none⟩ = some (.string vs) ∧ w'.cell? ⟨vb, 3, none⟩ = some (.slice q vl c) ∧ (convert 27 9 (.slice p bs.length cap)).run Try.prog w' = .ok (.string ⟨bs.toArray⟩) w' ∧ Hid (Below w3.heap.size w3 w'))
      (first
        | with_reducible exact keepD HR3.out HX3.out HP3.out HBE.out.drew
        | with_reducible exact keepD HR3.out HX3.out HP3.out HBE.out
        | with_reducible exact keepD HR3.out HX3.out HP3.out ((heldD (by assumption)).trans (hb1.mono (heldD (by assumption)).size))
        | with_reducible exact keepD HR3.out HX3.out HP3.out ((heldD (by assumption)).trans (hb2.mono (heldD (by assumption)).size))
        | assumption)
      (first
        | (go_at_call 17; with_reducible refine (HCHK.out _ (heldD (W := w3) (by assumption))).mono ?_; rintro e w' ⟨rfl, hb1⟩)
        | (go_at_call 29; (with_reducible refine (HENC.out _ (heldD (W := w3) (by assumption))).mono ?_); rintro e w' ⟨hb2, qe, me, ce, rfl, hcve⟩))
    all_goals
      have hb9 : Below w3.heap.size w3 w' := heldD (by assumption)
      have HZ9 := Lib.hid (HZ3.out.bel hb9)
      have HB9 := Lib.hid (HB3.out.trans (hb9.mono HB3.out.size))
      have HV9 := Lib.hid (HV3.out.keep (ok' := (w.heap.size + 1 ≤ ·)) hb9.size fun b hb hbl => ⟨by omega, hb9.block b hbl⟩)
      obtain ⟨_, d0, d1, d2, d3⟩ := HX3.out.bel hb9 HX3.out.lt
      obtain ⟨⟨a0, a1, a2, a3⟩, ⟨f0, f1, f2, f3⟩, hbz⟩ := HZ9.out
      have hzv : ¬ vb = w.heap.size := by omega
      have hzv2 : ¬ w.heap.size = vb := by omega
      go_wp2_with fail
      have HC4 := wr4_cells HZ9.out (.int .i64 vk) (.int .i64 vn) (.string vs) (.slice q vl c)
      have HB4 := wr4_below (.int .i64 vk) (.int .i64 vn) (.string vs) (.slice q vl c) HB9.out (Nat.le_refl _)
      have HV4 := wr4_in HV9.out (Nat.lt_succ_self w.heap.size) (.int .i64 vk) (.int .i64 vn) (.string vs) (.slice q vl c)
      obtain ⟨z0, z1, z2, z3⟩ := HC4
      unfold wr4 at *
      refine bodyPost_ret (v := .tuple #[.agg #[.int .i64 vk, .int .i64 vn, .string vs, .slice q vl c], .int .i64 0]) ?_ rfl ?_
      · simp [results, Try.results19, go_sem, z0, z1, z2, z3]
      · refine ⟨HB4, q, c, ?_, ?_⟩
        · rw [HDV.out.1, HDV.out.2]; unfold vV; rw [HEQ2.out.1, HEQ2.out.2.1, HEQ2.out.2.2.1, HEQ2.out.2.2.2]
        · rw [HDV.out.1]; exact HV4
  · have HDV : Hid (decV bs = .mk 0 0 ⟨#[]⟩ [] ∧ decE bs = 20) := Lib.hid (by
      cases h : rdV 16 bs with
      | none => exact decV_none h
      | some ur =>
        obtain ⟨u, r⟩ := ur
        exact decV_more h fun hr => hyes ⟨u, by rw [h, hr]⟩)
    have HOUT : Hid (∃ at2 bad, Rdr w2 w.heap.size (w.heap.size + 1) p cap bs at2 bad ∧ (bad = true ∨ at2 < bs.length)) := Lib.hid (by
      cases h : rdV 16 bs with
      | none =>
        rw [h] at hm
        obtain ⟨a, hr⟩ := hm
        exact ⟨a, true, hr, .inl rfl⟩
      | some ur =>
        obtain ⟨u, r⟩ := ur
        rw [h] at hm
        obtain ⟨_, a, ha, hr⟩ := hm
        refine ⟨a, false, hr, .inr (Nat.lt_of_not_le fun hle => hyes ⟨u, ?_⟩)⟩
        rw [h, ← ha, List.drop_eq_nil_of_le hle])
    obtain ⟨at2, bad, hr, hbad⟩ := HOUT.out
    have HRN : Hid (∀ o j, Rdr ((w2.alloc o).drewN j) w.heap.size (w.heap.size + 1) p cap bs at2 bad) := Lib.hid fun o j => (hr.bel ((Below.refl w2.heap.size w2).alloc (Nat.le_refl _) o) (Nat.le_refl _)).same (Nat.le_refl _) fun _ _ => rfl
    have HZN : Hid (∀ o j, Zb ((w2.alloc o).drewN j) w.heap.size) := Lib.hid fun o j => hZ2.kept (rb := w.heap.size + 1) ⟨rfl, rfl, rfl, by simp [World.drewN], fun k hk _ _ => Below.heap_alloc w2 o k hk⟩ (by omega)
    have HBN : Hid (∀ o j, Below w.heap.size w ((w2.alloc o).drewN j)) := Lib.hid fun o j => below_drewN (HB2.out.alloc HB2.out.size o) j
    have HRA : Hid (∀ o, Rdr (w2.alloc o) w.heap.size (w.heap.size + 1) p cap bs at2 bad) := Lib.hid fun o => hr.bel ((Below.refl w2.heap.size w2).alloc (Nat.le_refl _) o) (Nat.le_refl _)
    have k0 := fun o => (HRA.out o).c0
    have k1 := fun o => (HRA.out o).c1
    have k2 := fun o => (HRA.out o).c2
    clear HOUT hr hZ2 HB2 HZ2 hm hyes hat hv hp hsz hS
    unfold vV
    go_wp2_with fail
    cases bad with
    | true =>
      go_quiet (fail)
      have HZ5 := HZN.out (.cells #[.int .i64 v.k, .int .i64 v.n, .string v.s, .slice q v.l.length c] 24) nq
      have HB5 := HBN.out (.cells #[.int .i64 v.k, .int .i64 v.n, .string v.s, .slice q v.l.length c] 24) nq
      generalize (w2.alloc (.cells #[.int .i64 v.k, .int .i64 v.n, .string v.s, .slice q v.l.length c] 24)).drewN nq = w5 at *
      clear HZN HBN HRN HRA k0 k1 k2
      obtain ⟨⟨a0, a1, a2, a3⟩, ⟨f0, f1, f2, f3⟩, hbz⟩ := id HZ5
      go_wp2_with fail
      have HC4 := wr4_cells HZ5 (.int .i64 0) (.int .i64 0) (.string ⟨#[]⟩) (.slice none 0 0)
      have HB4 := wr4_below (.int .i64 0) (.int .i64 0) (.string ⟨#[]⟩) (.slice none 0 0) HB5 (Nat.le_refl _)
      obtain ⟨z0, z1, z2, z3⟩ := HC4
      unfold wr4 at *
      refine bodyPost_ret (v := .tuple #[.agg #[.int .i64 0, .int .i64 0, .string ⟨#[]⟩, .slice none 0 0], .int .i64 20]) ?_ rfl ?_
      · simp [results, Try.results19, go_sem, z0, z1, z2, z3]
      · refine ⟨HB4, none, 0, ?_, ?_⟩
        · rw [HDV.out.1, HDV.out.2]; rfl
        · rw [HDV.out.1]; exact VIn.leaf (by unfold Fit64; omega) (by unfold Fit64; omega) (by decide)
    | false =>
      have g1 : ¬ (at2 : Int) = (bs.length : Int) := by have := hbad.resolve_left (by simp); omega
      go_quiet (fail)
      have HZ5 := HZN.out (.cells #[.int .i64 v.k, .int .i64 v.n, .string v.s, .slice q v.l.length c] 24) nq
      have HB5 := HBN.out (.cells #[.int .i64 v.k, .int .i64 v.n, .string v.s, .slice q v.l.length c] 24) nq
      generalize (w2.alloc (.cells #[.int .i64 v.k, .int .i64 v.n, .string v.s, .slice q v.l.length c] 24)).drewN nq = w5 at *
      clear HZN HBN HRN HRA k0 k1 k2
      obtain ⟨⟨a0, a1, a2, a3⟩, ⟨f0, f1, f2, f3⟩, hbz⟩ := id HZ5
      go_wp2_with fail
      have HC4 := wr4_cells HZ5 (.int .i64 0) (.int .i64 0) (.string ⟨#[]⟩) (.slice none 0 0)
      have HB4 := wr4_below (.int .i64 0) (.int .i64 0) (.string ⟨#[]⟩) (.slice none 0 0) HB5 (Nat.le_refl _)
      obtain ⟨z0, z1, z2, z3⟩ := HC4
      unfold wr4 at *
      refine bodyPost_ret (v := .tuple #[.agg #[.int .i64 0, .int .i64 0, .string ⟨#[]⟩, .slice none 0 0], .int .i64 20]) ?_ rfl ?_
      · simp [results, Try.results19, go_sem, z0, z1, z2, z3]
      · refine ⟨HB4, none, 0, ?_, ?_⟩
        · rw [HDV.out.1, HDV.out.2]; rfl
        · rw [HDV.out.1]; exact VIn.leaf (by unfold Fit64; omega) (by unfold Fit64; omega) (by decide)
end Go.Proofs.Ytopkpdaingmmeaa
