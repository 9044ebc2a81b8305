/- The iterator of pairs. -/
import Derived.Test.YtdennlekjndfkaaMeet
namespace Go.Proofs.Ytdennlekjndfkaa
open Go.RowKit
attribute [local go_sem] Oper.semAt_some

/-- As Kp, and the row that is collected stays one that there is. -/
structure Kp2 (Bl : Nat) (W W' : World) : Prop where
  kp : Kp Bl W W'
  rbl : rb Bl W < W.heap.size → rb Bl W' < W'.heap.size
theorem Kp2.trans {Bl : Nat} {A B C : World} (h : Kp2 Bl A B) (k : Kp2 Bl B C) : Kp2 Bl A C := ⟨h.kp.trans k.kp, fun x => k.rbl (h.rbl x)⟩
theorem Kp2.of_below {Bl : Nat} {W W' : World} (h : Below W.heap.size W W') (hBl : Bl < W.heap.size) : Kp2 Bl W W' :=
  ⟨Kp.of_below h hBl, fun x => by rw [rb_cell (h.cell (p := ⟨Bl, 0, none⟩) hBl)]; exact Nat.lt_of_lt_of_le x h.size⟩
theorem Kp2.put {Bl base : Nat} (hBl : Bl < base) (W : World) (l : Nat) (o o' : Obj) (hl : base ≤ l) (ho : W.heap[l]? = some o) (hc : o.isCells = false) (hw : o.isWalk = false) : Kp2 Bl W (W.putObj l o') := by
  refine ⟨Kp.put hBl W l o o' hl ho hc hw, fun x => ?_⟩
  have key : ∀ i, (W.putObj l o').cell? ⟨Bl, i, none⟩ = W.cell? ⟨Bl, i, none⟩ := fun i => World.cell?_of_block (a := ⟨Bl, i, none⟩) (World.putObj_heap_other (show Bl ≠ l by omega))
  rw [rb_cell (key 0)]
  exact Nat.lt_of_lt_of_le x (grownBy_putObj' W l o').size
theorem Kp2.app {W w1 : World} {Bl B : Nat} {v : Value} {l l' : List Sp} {tmp : Obj} {g n cap : Nat} (hb : Boxed W Bl 24 v) (hown : Own W B v l) (hg : (W.alloc tmp).grownBy w1 v.ownBlock) (hr : v.ownBlock = some g ∨ W.heap.size ≤ g) (hown1 : Own w1 B (.slice (some ⟨g, 0, none⟩) n cap) l') :
    Kp2 Bl W (w1.setCell ⟨Bl, 0, none⟩ (.slice (some ⟨g, 0, none⟩) n cap)) := by
  refine ⟨Kp.app hb hown hg hr, fun _ => ?_⟩
  have hb1 : Boxed w1 Bl 24 v := (hb.alloc tmp).kept hg (hb.not_row (by decide) hown)
  have e : rb Bl (w1.setCell ⟨Bl, 0, none⟩ (.slice (some ⟨g, 0, none⟩) n cap)) = g := by
    unfold rb; rw [(hb1.set _).cell]
  rw [e]
  have := (hown1.lt g rfl).2
  simpa using this

/-- A span in a box of its own, which the rounds do not touch. -/
structure RdSp (Bl : Nat) (W : World) (b : Nat) (x : Sp) : Prop where
  c1 : W.cell? ⟨b, 0, none⟩ = some (.int .i64 x.1)
  c2 : W.cell? ⟨b, 1, none⟩ = some (.int .i64 x.2)
  safe : Safe Bl W b
theorem RdSp.kp {Bl b : Nat} {W W' : World} {x : Sp} (h : RdSp Bl W b x) (k : Kp Bl W W') : RdSp Bl W' b x := ⟨k.cell b 0 _ h.safe.2.1 h.safe.2.2 h.c1, k.cell b 1 _ h.safe.2.1 h.safe.2.2 h.c2, h.safe.kp k⟩
theorem RdSp.below {Bl b : Nat} {W W' : World} {x : Sp} (h : RdSp Bl W b x) (k : Below W.heap.size W W') (hBl : Bl < W.heap.size) : RdSp Bl W' b x := h.kp (Kp.of_below k hBl)
theorem abides_below2 {β : Type} {B : Nat} {J : β → World → Prop} (hJ : AbidesFrom B J) {s : β} {W W' : World} (h : J s W) (hb : Below W.heap.size W W') : J s W' :=
  hJ s W W' none h (grownBy_of_below hb) (fun r e => by cases e)

def pairL (a b : List Sp) : List (Sp × Sp) := (a.map fun x => b.map fun y => (x, y)).flatten
theorem pairL_cons (x : Sp) (a b : List Sp) : pairL (x :: a) b = b.map (fun y => (x, y)) ++ pairL a b := rfl
theorem pairL_nil (b : List Sp) : pairL [] b = [] := rfl
theorem pairL_len (a b : List Sp) : (pairL a b).length = a.length * b.length := by
  induction a with
  | nil => simp [pairL]
  | cons x a ih => rw [pairL_cons, List.length_append, ih, List.length_map, List.length_cons, Nat.succ_mul]; omega
theorem pairL_sums (a b : List Sp) : (pairL a b).map (fun z => sm z.1 z.2) = sumsL a b := by
  induction a with
  | nil => rfl
  | cons x a ih => rw [pairL_cons, sumsL_cons, List.map_append, ih, List.map_map]; rfl
def enc2 (z : Sp × Sp) : Array Value := #[.agg #[.int .i64 z.1.1, .int .i64 z.1.2], .agg #[.int .i64 z.2.1, .int .i64 z.2.2]]

set_option maxHeartbeats 2000000 in
theorem pairs1_in (n : Nat) (hn : 1 ≤ n) (l Ba Bb Bl : Nat) (p q : Option Addr) (cap cap' : Nat) (a b : List Sp) (hla : a.length ≤ 1000000) (hlb : b.length ≤ 1000000) (J Jx : List (Sp × Sp) → World → Prop) (W : World) (hJ : AbidesFrom W.heap.size J)
    (hY : ∀ pre x W1, J pre W1 → pre ++ [x] <+: pairL a b → YieldAt Fence.wide (n - 1) Try.prog l (enc2 x) W1 fun e W' =>
      (e = .returned (.bool true) ∧ J (pre ++ [x]) W' ∧ Kp2 Bl W1 W') ∨ (e = .returned (.bool false) ∧ Jx (pre ++ [x]) W'))
    (hBa : RdBox Bl W Ba (.slice p a.length cap)) (hBb : RdBox Bl W Bb (.slice q b.length cap')) (hza : Rd Bl W p a) (hzb : Rd Bl W q b) (hrb : rb Bl W < W.heap.size) (h0 : J [] W) :
    CallsIn Fence.wide n Try.prog 55 #[.func (.yield l) #[] #[], .pointer (some ⟨Ba, 0, none⟩), .pointer (some ⟨Bb, 0, none⟩)] W fun e W' => (∃ v, e = .returned v) ∧
      ((∃ ys, ys = pairL a b ∧ J ys W') ∨ (∃ pre, pre <+: pairL a b ∧ Jx pre W')) := by
  have hAc := hBa.cell
  refine callsIn_of_wp Try.func55 rfl trivial ?_ rfl
  simp only [Try.ntmps55, List.size_toArray, List.length_cons, List.length_nil, Nat.reduceAdd, Nat.reduceSub, Array.replicate_succ, Array.replicate_zero, List.push_toArray, List.append_toArray, List.nil_append, List.cons_append]
  gi_wp2_with fail
  gi_loopw [10] (fun i wr => ∃ (k : Nat) (pre : List (Sp × Sp)), k ≤ a.length ∧ i = .int .i64 k ∧ J pre wr ∧ Hid (pre ++ pairL (a.drop k) b = pairL a b) ∧ Rd Bl wr p a ∧ Rd Bl wr q b ∧ RdBox Bl wr Bb (.slice q b.length cap') ∧ rb Bl wr < wr.heap.size) (fun i _ => a.length - (intOf i).toNat)
  case atStart => exact ⟨0, [], Nat.zero_le _, by go_num, h0, rfl, hza, hzb, hBb, hrb⟩
  case round =>
    obtain ⟨k, pre, hk, rfl, hJs, HP, hRa, hRb, hB, hrbw⟩ := hrel
    by_cases hlt : k < a.length
    · obtain ⟨b1, o1, rfl, _, hbs1, hc⟩ := hRa.at'.at' (by intro h; simp [h] at hlt)
      obtain ⟨c1, c2⟩ := hc k hlt
      have HDA : Hid (a.drop k = a[k] :: a.drop (k + 1)) := List.drop_eq_getElem_cons hlt
      clear hc hAc hBa hBb hza hzb hrb h0
      generalize a[k] = x at *
      have hBc := fun u => later3 (u := u) hB.safe.1 hB.cell
      have hb0 : Below wr.heap.size wr (wr.alloc (.cells #[.int .i64 x.1, .int .i64 x.2] 23)) := (Below.refl _ _).alloc (Nat.le_refl _) _
      have hS : RdSp Bl (wr.alloc (.cells #[.int .i64 x.1, .int .i64 x.2] 23)) wr.heap.size x := by
        have e := rb_cell (hb0.cell (p := ⟨Bl, 0, none⟩) hRa.bl)
        refine ⟨by simp, by simp, by simp, ?_, ?_⟩
        · have := hRa.bl; omega
        · rw [e]; omega
      have hJ2 := abides_below2 hJ hJs hb0
      have hrb2 : rb Bl (wr.alloc (.cells #[.int .i64 x.1, .int .i64 x.2] 23)) < (wr.alloc (.cells #[.int .i64 x.1, .int .i64 x.2] 23)).heap.size := by
        rw [rb_cell (hb0.cell (p := ⟨Bl, 0, none⟩) hRa.bl)]; simp; omega
      have HRa := Lib.hid (hRa.below hb0)
      have HRb := Lib.hid (hRb.below hb0)
      have HB := Lib.hid (hB.below hb0 hRa.bl)
      have HS := Lib.hid hS
      have HJ2 := Lib.hid hJ2
      have HRB := Lib.hid hrb2
      have HP2 : Hid (pre ++ (b.map (fun y => (x, y)) ++ pairL (a.drop (k + 1)) b) = pairL a b) := by have := HP.out; rw [HDA.out, pairL_cons] at this; exact this
      clear hRa hRb hB hS hJ2 hb0 hrb2 hrbw HP hJs
      gi_wp2_with fail
      generalize wr.alloc (.cells #[.int .i64 x.1, .int .i64 x.2] 23) = wo at *
      generalize wr.heap.size = S at *
      gi_loopw [16] (fun i wr2 => ∃ (j : Nat) (pre2 : List (Sp × Sp)), j ≤ b.length ∧ i = .int .i64 j ∧ J pre2 wr2 ∧ Hid (pre2 ++ ((b.drop j).map (fun y => (x, y)) ++ pairL (a.drop (k + 1)) b) = pairL a b) ∧ Hid (Rd Bl wr2 (some ⟨b1, o1, none⟩) a) ∧ Hid (Rd Bl wr2 q b) ∧ Hid (RdBox Bl wr2 Bb (.slice q b.length cap')) ∧ Hid (rb Bl wr2 < wr2.heap.size) ∧ Hid (RdSp Bl wr2 S x)) (fun i _ => b.length - (intOf i).toNat)
      case atStart => exact ⟨0, pre, Nat.zero_le _, by go_num, HJ2.out, HP2, HRa, HRb, HB, HRB, HS⟩
      case round =>
        obtain ⟨j, pre2, hj, rfl, hJ3, HP3, HRa3, HRb3, HB3, HRB3, HS3⟩ := hrel
        by_cases hlt2 : j < b.length
        · obtain ⟨b2, o2, rfl, _, hbs2, hd⟩ := HRb3.out.at'.at' (by intro h; simp [h] at hlt2)
          obtain ⟨d1, d2⟩ := hd j hlt2
          have HDB : Hid (b.drop j = b[j] :: b.drop (j + 1)) := List.drop_eq_getElem_cons hlt2
          clear hd hBc
          generalize b[j] = y at *
          have hb0 : Below wr.heap.size wr (wr.alloc (.cells #[.int .i64 y.1, .int .i64 y.2] 23)) := (Below.refl _ _).alloc (Nat.le_refl _) _
          have hbl := HRb3.out.bl
          have HRb4 := Lib.hid (HRb3.out.below hb0)
          have HRa4 := Lib.hid (HRa3.out.below hb0)
          have HB4 := Lib.hid (HB3.out.below hb0 hbl)
          have HS4 := Lib.hid (HS3.out.below hb0 hbl)
          have HRB4 : Hid (rb Bl (wr.alloc (.cells #[.int .i64 y.1, .int .i64 y.2] 23)) < (wr.alloc (.cells #[.int .i64 y.1, .int .i64 y.2] 23)).heap.size) := by
            show _ < _
            have := HRB3.out
            rw [rb_cell (hb0.cell (p := ⟨Bl, 0, none⟩) hbl)]; simp; omega
          have HJ4 := Lib.hid (abides_below2 hJ hJ3 hb0)
          have s1 := HS4.out.c1
          have s2 := HS4.out.c2
          have HST : Hid (pre2.length < (pairL a b).length ∧ pre2 ++ [(x, y)] <+: pairL a b ∧ pre2 ++ [(x, y)] ++ ((b.drop (j + 1)).map (fun y => (x, y)) ++ pairL (a.drop (k + 1)) b) = pairL a b) := by
            have := HP3.out
            rw [HDB.out, List.map_cons] at this
            exact ⟨by rw [← this]; simp, ⟨_, by rw [List.append_assoc]; exact this⟩, by rw [List.append_assoc]; exact this⟩
          clear HRb3 HRa3 HB3 HS3 HRB3 hJ3 HP3
          obtain ⟨fn, tmps, assign, body, hy2, hRo⟩ := hY pre2 (x, y) _ HJ4.out HST.out.2.1
          simp only [enc2] at hRo hy2
          gi_wp2_with fail
          refine hRo.mono ?_
          rintro e W3 (⟨rfl, hJ5, hk5⟩ | ⟨rfl, hJx5⟩)
          · have HRB5 := Lib.hid (hk5.rbl HRB4.out)
            have HRa5 := Lib.hid (HRa4.out.kp hk5.kp)
            have HRb5 := Lib.hid (HRb4.out.kp hk5.kp)
            have HB5 := Lib.hid (HB4.out.kp hk5.kp)
            have HS5 := Lib.hid (HS4.out.kp hk5.kp)
            gi_wp2_with fail
            go_roundw
            case rel => exact ⟨j + 1, pre2 ++ [(x, y)], by omega, by go_num, hJ5, HST.out.2.2, HRa5, HRb5, HB5, HRB5, HS5⟩
            case measure => simp [intOf]; omega
          · gi_wp2_with fail
            refine bodyPost_ret (results_none rfl _ _ _) rfl ?_
            exact ⟨⟨_, rfl⟩, .inr ⟨_, HST.out.2.1, hJx5⟩⟩
        · have HE : Hid (pre2 ++ pairL (a.drop (k + 1)) b = pairL a b) := by have := HP3.out; rw [List.drop_of_length_le (by omega), List.map_nil, List.nil_append] at this; exact this
          gi_wp2_with fail
          go_roundw
          case rel => exact ⟨k + 1, pre2, by omega, by go_num, hJ3, HE, HRa3.out, HRb3.out, HB3.out, HRB3.out⟩
          case measure => simp [intOf]; omega
    · have HE : Hid (pre = pairL a b) := by have := HP.out; rw [List.drop_of_length_le (by omega), pairL_nil, List.append_nil] at this; exact this
      gi_wp2_with fail
      go_end0
      exact ⟨⟨_, rfl⟩, .inl ⟨_, HE.out, hJs⟩⟩

/-- Pairs of bounded spans. -/
abbrev BdP := { z : Sp × Sp // Bd z.1 ∧ Bd z.2 }
def bdL (L : List (Sp × Sp)) (h : ∀ z ∈ L, Bd z.1 ∧ Bd z.2) : List BdP := L.attach.map fun z => ⟨z.1, h z.1 z.2⟩
theorem bdL_val (L : List (Sp × Sp)) (h : ∀ z ∈ L, Bd z.1 ∧ Bd z.2) : (bdL L h).map (·.1) = L := by
  unfold bdL
  rw [List.map_map]
  exact List.attach_map_subtype_val L
theorem pairL_mem {a b : List Sp} {z : Sp × Sp} (h : z ∈ pairL a b) : z.1 ∈ a ∧ z.2 ∈ b := by
  unfold pairL at h
  simp only [List.mem_flatten, List.mem_map] at h
  obtain ⟨l, ⟨x, hx, rfl⟩, hz⟩ := h
  obtain ⟨y, hy, rfl⟩ := List.mem_map.1 hz
  exact ⟨hx, hy⟩
theorem pairs_stops (n : Nat) (hn : 1 ≤ n) (Ba Bb Bl : Nat) (p q : Option Addr) (cap cap' : Nat) (a b : List Sp) (hla : a.length ≤ 1000000) (hlb : b.length ≤ 1000000) (w : World) (L : List BdP) (hL : L.map (·.1) = pairL a b)
    (hBa : RdBox Bl w Ba (.slice p a.length cap)) (hBb : RdBox Bl w Bb (.slice q b.length cap')) (hza : Rd Bl w p a) (hzb : Rd Bl w q b) (hrb : rb Bl w < w.heap.size) :
    SeqStopsK Fence.wide n Try.prog 55 #[.pointer (some ⟨Ba, 0, none⟩), .pointer (some ⟨Bb, 0, none⟩)] (fun x : BdP => enc2 x.1) (Kp2 Bl) (fun ys => ys = L) (fun pre => pre <+: L) L.length w := by
  intro l J Jx W hW hJ hJx hY h0
  refine (pairs1_in n hn l Ba Bb Bl p q cap cap' a b hla hlb (fun pre W => ∃ pre', pre' <+: L ∧ pre'.map (·.1) = pre ∧ J pre' W) (fun pre W => ∃ pre', pre' <+: L ∧ pre'.map (·.1) = pre ∧ Jx pre' W) W ?_ ?_ (hBa.below hW hza.bl) (hBb.below hW hza.bl) (hza.below hW) (hzb.below hW) ((Kp2.of_below hW hza.bl).rbl hrb) ⟨[], List.nil_prefix, rfl, h0⟩).mono ?_
  · rintro s A C row ⟨pre', h1, h2, h3⟩ hg hr
    exact ⟨pre', h1, h2, hJ pre' A C row h3 hg hr⟩
  · rintro pre x W1 ⟨pre', h1, h2, h3⟩ hpre
    obtain ⟨t, ht⟩ := h1
    obtain ⟨t2, ht2⟩ := hpre
    cases t with
    | nil =>
      rw [List.append_nil] at ht
      subst ht
      rw [hL] at h2
      have e := congrArg List.length ht2
      rw [h2] at e
      simp at e
    | cons x' t =>
      have e := hL
      rw [← ht, List.map_append, List.map_cons, h2, ← ht2, List.append_assoc] at e
      have e2 := List.append_cancel_left e
      obtain ⟨rfl, _⟩ := List.cons.inj e2
      have hp : pre' ++ [x'] <+: L := ⟨t, by rw [List.append_assoc]; exact ht⟩
      refine (hY pre' x' W1 h3 (by rw [← ht]; simp)).mono ?_
      rintro e W' (⟨he, hj, hk⟩ | ⟨he, hj⟩)
      · exact .inl ⟨he, ⟨_, hp, by rw [List.map_append, h2]; rfl, hj⟩, hk⟩
      · exact .inr ⟨he, _, hp, by rw [List.map_append, h2]; rfl, hj⟩
  · rintro e W' ⟨hv, ⟨ys, rfl, pre', hp, hm, hj⟩ | ⟨pre, _, pre', hp, hm, hj⟩⟩
    · refine ⟨hv, .inl ⟨pre', ?_, hj⟩⟩
      obtain ⟨t, ht⟩ := hp
      have e := congrArg List.length hm
      rw [← hL, List.length_map, List.length_map, ← ht, List.length_append] at e
      have : t = [] := List.length_eq_zero_iff.1 (by omega)
      rw [← ht, this, List.append_nil]
    · exact ⟨hv, .inr ⟨pre', hp, hj⟩⟩

set_option maxHeartbeats 400000 in
theorem pairsF_any (p q : Option Addr) (n cap m cap' : Nat) (w : World) :
    Calls Try.prog 46 #[.slice p n cap, .slice q m cap'] w fun e w' => e = .returned (.func (.func 55) #[] #[.pointer (some ⟨w.heap.size, 0, none⟩), .pointer (some ⟨w.heap.size + 1, 0, none⟩)]) ∧ w' = (w.alloc (.cells #[.slice p n cap] 24)).alloc (.cells #[.slice q m cap'] 24) := by
  go_enter Try.func46, Try.ntmps46
  go_wp2
  go_ret
  exact ⟨rfl, rfl⟩
theorem eg55 : ∀ args w, (callFunc 55 args).run Try.prog w = .ok (.enter 55 args) w := enters_of Try.func55 (by kernel_rfl) rfl
end Go.Proofs.Ytdennlekjndfkaa
