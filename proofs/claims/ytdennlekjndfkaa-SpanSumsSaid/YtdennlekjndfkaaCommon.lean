/- The iterator of common. -/
import Derived.Test.YtdennlekjndfkaaCollect
import Derived.Test.YtdennlekjndfkaaMath7
import Derived.Deep.QuietTactic
import Derived.BigQuiet
import Derived.BigRegion
import Derived.StillTailTactics
import Derived.Deep.RegionHeld3
import Derived.Deep.CutRange
namespace Go.Proofs.Ytdennlekjndfkaa
open Go.RowKit
attribute [local go_sem] Oper.semAt_some

/-- A captured variable can be read, whatever the rounds do. -/
structure RdBox (Bl : Nat) (W : World) (b : Nat) (v : Value) : Prop where
  cell : W.cell? ⟨b, 0, none⟩ = some v
  safe : Safe Bl W b
theorem RdBox.kp {Bl b : Nat} {W W' : World} {v : Value} (h : RdBox Bl W b v) (k : Kp Bl W W') : RdBox Bl W' b v := ⟨k.cell b 0 v h.safe.2.1 h.safe.2.2 h.cell, h.safe.kp k⟩
theorem RdBox.below {Bl b : Nat} {W W' : World} {v : Value} (h : RdBox Bl W b v) (k : Below W.heap.size W W') (hBl : Bl < W.heap.size) : RdBox Bl W' b v := h.kp (Kp.of_below k hBl)
theorem later3 {w : World} {b o : Nat} {v : Value} (h : b < w.heap.size) (hc : w.cell? ⟨b, o, none⟩ = some v) {u : Obj} : (w.alloc u).cell? ⟨b, o, none⟩ = some v := (((Below.refl w.heap.size w).alloc (Nat.le_refl _) u).cell (p := ⟨b, o, none⟩) h).trans hc

theorem Rd.cells {Bl b o i : Nat} {W : World} {zs t : List Sp} {x : Sp} (h : Rd Bl W (some ⟨b, o, none⟩) zs) (hd : zs.drop i = x :: t) :
    W.cell? ⟨b, o + i * 2, none⟩ = some (.int .i64 x.1) ∧ W.cell? ⟨b, o + i * 2 + 1, none⟩ = some (.int .i64 x.2) ∧ b < W.heap.size := by
  have hi : i < zs.length := by
    refine Nat.lt_of_not_le fun hh => ?_
    rw [List.drop_of_length_le hh] at hd; cases hd
  rw [List.drop_eq_getElem_cons hi] at hd
  obtain ⟨rfl, _⟩ := List.cons.inj hd
  obtain ⟨b', o', e, _, h2, h3⟩ := h.at'.at' (by rintro rfl; simp at hi)
  cases e
  exact ⟨(h3 i hi).1, (h3 i hi).2, h2⟩
theorem max_if (a b : Int) : max a b = if a < b then b else a := by split <;> omega
theorem min_if (a b : Int) : min a b = if b < a then b else a := by split <;> omega
set_option maxRecDepth 100000 in
set_option maxHeartbeats 2000000 in
theorem common1_in (n : Nat) (hn : 1 ≤ n) (l Ba Bb Bl : Nat) (p q : Option Addr) (cap cap' : Nat) (a b : List Sp) (ha : ∀ x ∈ a, Bd x) (hb : ∀ x ∈ b, Bd x) (hla : a.length ≤ 1000000) (hlb : b.length ≤ 1000000) (J Jx : List Sp → World → Prop) (W : World) (hJ : AbidesFrom W.heap.size J)
    (hY : ∀ pre x W1, J pre W1 → pre.length < (comL a b).length → YieldAt Fence.wide (n - 1) Try.prog l #[.agg #[.int .i64 x.1, .int .i64 x.2]] W1 fun e W' =>
      (e = .returned (.bool true) ∧ J (pre ++ [x]) W' ∧ Kp Bl W1 W') ∨ (e = .returned (.bool false) ∧ Jx (pre ++ [x]) W'))
    (hBa : RdBox Bl W Ba (.slice p a.length cap)) (hBb : RdBox Bl W Bb (.slice q b.length cap')) (hza : Rd Bl W p a) (hzb : Rd Bl W q b) (h0 : J [] W) :
    CallsIn Fence.wide n Try.prog 53 #[.func (.yield l) #[] #[], .pointer (some ⟨Ba, 0, none⟩), .pointer (some ⟨Bb, 0, none⟩)] W fun e W' => (∃ v, e = .returned v) ∧
      ((∃ ys, ys = comL a b ∧ J ys W') ∨ (∃ pre, pre <+: comL a b ∧ Jx pre W')) := by
  refine callsIn_of_wp Try.func53 rfl trivial ?_ rfl
  simp only [Try.ntmps53, List.size_toArray, List.length_cons, List.length_nil, Nat.reduceAdd, Nat.reduceSub, Array.replicate_succ, Array.replicate_zero, List.push_toArray, List.append_toArray, List.nil_append, List.cons_append]
  gi_wp2_with fail
  gi_loopw [4, 5] (fun i k wr => ∃ (ni nk : Nat) (pre : List Sp), (ni ≤ a.length ∧ nk ≤ b.length) ∧ i = .int .i64 ni ∧ k = .int .i64 nk ∧ J pre wr ∧ Hid (pre ++ comL (a.drop ni) (b.drop nk) = comL a b) ∧ Rd Bl wr p a ∧ Rd Bl wr q b ∧ RdBox Bl wr Ba (.slice p a.length cap) ∧ RdBox Bl wr Bb (.slice q b.length cap')) (fun i k _ => (a.length - (intOf i).toNat) + (b.length - (intOf k).toNat))
  case atStart => exact ⟨0, 0, [], ⟨Nat.zero_le _, Nat.zero_le _⟩, rfl, rfl, h0, rfl, hza, hzb, hBa, hBb⟩
  case round =>
    obtain ⟨ni, nk, pre, ⟨hi, hk⟩, rfl, rfl, hJs, HP, hRa, hRb, hA, hB⟩ := hrel
    have hAc := hA.cell
    have hBc := hB.cell
    by_cases hlt : ni < a.length
    · by_cases hlt2 : nk < b.length
      · obtain ⟨b1, o1, rfl, _, hbs1, hc⟩ := hRa.at'.at' (by intro h; simp [h] at hlt)
        obtain ⟨b2, o2, rfl, _, hbs2, hd⟩ := hRb.at'.at' (by intro h; simp [h] at hlt2)
        obtain ⟨c1, c2⟩ := hc ni hlt
        obtain ⟨d1, d2⟩ := hd nk hlt2
        have hx := ha a[ni] (List.getElem_mem hlt)
        have hy := hb b[nk] (List.getElem_mem hlt2)
        have HDA : Hid (a.drop ni = a[ni] :: a.drop (ni + 1)) := List.drop_eq_getElem_cons hlt
        have HDB : Hid (b.drop nk = b[nk] :: b.drop (nk + 1)) := List.drop_eq_getElem_cons hlt2
        clear hc hd
        generalize a[ni] = x at *
        generalize b[nk] = y at *
        have HST := Lib.hid (com_step pre (comL a b) x y (a.drop (ni + 1)) (b.drop (nk + 1)) (by rw [← HDA.out, ← HDB.out]; exact HP.out))
        have HRa := Lib.hid hRa
        have HRb := Lib.hid hRb
        have HA := Lib.hid hA
        have HB := Lib.hid hB
        have hAl := hA.safe.1
        have hBl' := hB.safe.1
        have hBll := hRa.bl
        clear hRa hRb hA hB
        unfold Bd at hx hy
        have a1 : ∀ u, (wr.alloc u).cell? ⟨Ba, 0, none⟩ = some (.slice (some ⟨b1, o1, none⟩) a.length cap) := fun u => later3 hAl hAc
        have a2 : ∀ u, (wr.alloc u).cell? ⟨Bb, 0, none⟩ = some (.slice (some ⟨b2, o2, none⟩) b.length cap') := fun u => later3 hBl' hBc
        have e1 : ∀ u, (wr.alloc u).cell? ⟨b1, o1 + ni * 2, none⟩ = some (.int .i64 x.1) := fun u => later3 hbs1 c1
        have e2 : ∀ u, (wr.alloc u).cell? ⟨b1, o1 + ni * 2 + 1, none⟩ = some (.int .i64 x.2) := fun u => later3 hbs1 c2
        have e3 : ∀ u, (wr.alloc u).cell? ⟨b2, o2 + nk * 2, none⟩ = some (.int .i64 y.1) := fun u => later3 hbs2 d1
        have e4 : ∀ u, (wr.alloc u).cell? ⟨b2, o2 + nk * 2 + 1, none⟩ = some (.int .i64 y.2) := fun u => later3 hbs2 d2
        gi_wp2_with fail
        refine wpIn_wide.2 ?_
        go_cut [6] from 17 to 39 (fun s w' => s = .pointer (some ⟨wr.heap.size, 0, none⟩) ∧ w' = (wr.alloc (.cells #[.int .i64 (max x.1 y.1), .int .i64 (min x.2 y.2)] 23)).drew)
        case first =>
          go_region_held3 (fun w' => w'.cell? ⟨Ba, 0, none⟩ = some (.slice (some ⟨b1, o1, none⟩) a.length cap) ∧ w'.cell? ⟨Bb, 0, none⟩ = some (.slice (some ⟨b2, o2, none⟩) b.length cap') ∧ w'.cell? ⟨b1, o1 + ni * 2, none⟩ = some (.int .i64 x.1) ∧ w'.cell? ⟨b1, o1 + ni * 2 + 1, none⟩ = some (.int .i64 x.2) ∧ w'.cell? ⟨b2, o2 + nk * 2, none⟩ = some (.int .i64 y.1) ∧ w'.cell? ⟨b2, o2 + nk * 2 + 1, none⟩ = some (.int .i64 y.2)) (go_keep) ((fail))
          all_goals (go_wp2_with fail)
          all_goals (go_meet; refine ⟨rfl, ?_⟩; rw [max_if, min_if]; (repeat' split) <;> first | rfl | (exfalso; omega))
        case rest =>
          obtain ⟨rfl, rfl⟩ := hcut
          have hb0 : Below wr.heap.size wr ((wr.alloc (.cells #[.int .i64 (max x.1 y.1), .int .i64 (min x.2 y.2)] 23)).drew) := below_drewN ((Below.refl _ _).alloc (Nat.le_refl _) _) 1
          have hJ2 := abides_below hJ hJs hb0
          have HR1 := Lib.hid (HRa.out.below hb0)
          have HR2 := Lib.hid (HRb.out.below hb0)
          have HA2 := Lib.hid (HA.out.below hb0 hBll)
          have HB2 := Lib.hid (HB.out.below hb0 hBll)
          clear HRa HRb HA HB hb0
          by_cases hmm : max x.1 y.1 ≤ min x.2 y.2
          · have HTL := HST.out.1 hmm
            obtain ⟨fn, tmps, assign, body, hy2, hRo⟩ := hY pre (max x.1 y.1, min x.2 y.2) _ hJ2 HTL.1
            have HT := Lib.hid HTL.2
            clear HTL HST hJ2
            gi_wp2_with fail
            refine hRo.mono ?_
            rintro e W3 (⟨rfl, hJ4, hk4⟩ | ⟨rfl, hJx4⟩)
            · have HR3 := Lib.hid (HR1.out.kp hk4)
              have HR4 := Lib.hid (HR2.out.kp hk4)
              have HA3 := Lib.hid (HA2.out.kp hk4)
              have HB3 := Lib.hid (HB2.out.kp hk4)
              have HJ4 := Lib.hid hJ4
              clear hk4 hJ4 HR1 HR2 HA2 HB2
              have hAc3 := HA3.out.cell
              have hBc3 := HB3.out.cell
              obtain ⟨k1, k2, hk3⟩ := HR3.out.cells HDA.out
              obtain ⟨k4, k5, hk6⟩ := HR4.out.cells HDB.out
              by_cases hle : x.2 < y.2
              · gi_wp2_with fail
                refine wpIn_wide.2 ?_
                go_quiet (fail)
                gi_wp2_with fail
                have hbn := fun (W : World) (k : Nat) => below_drewN (Below.refl W.heap.size W) k
                go_roundw
                case rel => exact ⟨ni + 1, nk, pre ++ [(max x.1 y.1, min x.2 y.2)], ⟨by omega, by omega⟩, by go_num, rfl, abides_below hJ HJ4.out (hbn _ _), (by show _ = _; rw [HDB.out]; exact HT.out.2.1 hle), HR3.out.below (hbn _ _), HR4.out.below (hbn _ _), HA3.out.below (hbn _ _) HR3.out.bl, HB3.out.below (hbn _ _) HR3.out.bl⟩
                case measure => simp [intOf]; omega
              · gi_wp2_with fail
                refine wpIn_wide.2 ?_
                go_quiet (fail)
                gi_wp2_with fail
                have hbn := fun (W : World) (k : Nat) => below_drewN (Below.refl W.heap.size W) k
                go_roundw
                case rel => exact ⟨ni, nk + 1, pre ++ [(max x.1 y.1, min x.2 y.2)], ⟨by omega, by omega⟩, rfl, by go_num, abides_below hJ HJ4.out (hbn _ _), (by show _ = _; rw [HDA.out]; exact HT.out.2.2 hle), HR3.out.below (hbn _ _), HR4.out.below (hbn _ _), HA3.out.below (hbn _ _) HR3.out.bl, HB3.out.below (hbn _ _) HR3.out.bl⟩
                case measure => simp [intOf]; omega
            · gi_wp2_with fail
              refine bodyPost_ret (results_none rfl _ _ _) rfl ?_
              exact ⟨⟨_, rfl⟩, .inr ⟨_, HT.out.1, hJx4⟩⟩
          · gi_wp2_with fail
            refine ⟨fun _ h => (by cases h), ?_⟩
            have hJ3 := Lib.hid hJ2
            have HT := Lib.hid (HST.out.2 hmm)
            clear HST hJ2
            have hAc3 := HA2.out.cell
            have hBc3 := HB2.out.cell
            obtain ⟨k1, k2, hk3⟩ := HR1.out.cells HDA.out
            obtain ⟨k4, k5, hk6⟩ := HR2.out.cells HDB.out
            generalize (wr.alloc (.cells #[.int .i64 (max x.1 y.1), .int .i64 (min x.2 y.2)] 23)).drew = W2 at *
            by_cases hle : x.2 < y.2
            · gi_wp2_with fail
              refine wpIn_wide.2 ?_
              go_quiet (fail)
              gi_wp2_with fail
              have hbn := fun (W : World) (k : Nat) => below_drewN (Below.refl W.heap.size W) k
              go_roundw
              case rel => exact ⟨ni + 1, nk, pre, ⟨by omega, by omega⟩, by go_num, rfl, abides_below hJ hJ3.out (hbn _ _), (by show _ = _; rw [HDB.out]; exact HT.out.1 hle), HR1.out.below (hbn _ _), HR2.out.below (hbn _ _), HA2.out.below (hbn _ _) HR1.out.bl, HB2.out.below (hbn _ _) HR1.out.bl⟩
              case measure => simp [intOf]; omega
            · gi_wp2_with fail
              refine wpIn_wide.2 ?_
              go_quiet (fail)
              gi_wp2_with fail
              have hbn := fun (W : World) (k : Nat) => below_drewN (Below.refl W.heap.size W) k
              go_roundw
              case rel => exact ⟨ni, nk + 1, pre, ⟨by omega, by omega⟩, rfl, by go_num, abides_below hJ hJ3.out (hbn _ _), (by show _ = _; rw [HDA.out]; exact HT.out.2 hle), HR1.out.below (hbn _ _), HR2.out.below (hbn _ _), HA2.out.below (hbn _ _) HR1.out.bl, HB2.out.below (hbn _ _) HR1.out.bl⟩
              case measure => simp [intOf]; omega
      · have HE : Hid (pre = comL a b) := by have := HP.out; rw [List.drop_of_length_le (l := b) (by omega), comL_nil2, List.append_nil] at this; exact this
        gi_wp2_with fail
        go_end0
        exact ⟨⟨_, rfl⟩, .inl ⟨_, HE.out, hJs⟩⟩
    · have HE : Hid (pre = comL a b) := by have := HP.out; rw [List.drop_of_length_le (l := a) (by omega), comL_nil1, List.append_nil] at this; exact this
      gi_wp2_with fail
      go_end0
      exact ⟨⟨_, rfl⟩, .inl ⟨_, HE.out, hJs⟩⟩

theorem common_stops (n : Nat) (hn : 1 ≤ n) (Ba Bb Bl : Nat) (p q : Option Addr) (cap cap' : Nat) (a b : List Sp) (ha : ∀ x ∈ a, Bd x) (hb : ∀ x ∈ b, Bd x) (hla : a.length ≤ 1000000) (hlb : b.length ≤ 1000000) (w : World)
    (hBa : RdBox Bl w Ba (.slice p a.length cap)) (hBb : RdBox Bl w Bb (.slice q b.length cap')) (hza : Rd Bl w p a) (hzb : Rd Bl w q b) :
    SeqStopsK Fence.wide n Try.prog 53 #[.pointer (some ⟨Ba, 0, none⟩), .pointer (some ⟨Bb, 0, none⟩)] enc1 (Kp Bl) (fun ys => ys = comL a b) (fun pre => pre <+: comL a b) (comL a b).length w := by
  intro l J Jx W hW hJ hJx hY h0
  exact common1_in n hn l Ba Bb Bl p q cap cap' a b ha hb hla hlb J Jx W hJ hY (hBa.below hW hza.bl) (hBb.below hW hza.bl) (hza.below hW) (hzb.below hW) h0

set_option maxHeartbeats 400000 in
theorem commonF_any (p q : Option Addr) (n cap m cap' : Nat) (w : World) :
    Calls Try.prog 42 #[.slice p n cap, .slice q m cap'] w fun e w' => e = .returned (.func (.func 53) #[] #[.pointer (some ⟨w.heap.size, 0, none⟩), .pointer (some ⟨w.heap.size + 1, 0, none⟩)]) ∧ w' = (w.alloc (.cells #[.slice p n cap] 24)).alloc (.cells #[.slice q m cap'] 24) := by
  go_enter Try.func42, Try.ntmps42
  go_wp2
  go_ret
  exact ⟨rfl, rfl⟩
end Go.Proofs.Ytdennlekjndfkaa
