/- collect: the spans of an iterator, as far as a set may have so many. -/
import Derived.Test.YtdennlekjndfkaaCollect
import Derived.Test.YtdennlekjndfkaaMath2
namespace Go.Proofs.Ytdennlekjndfkaa
open Go.RowKit
attribute [local go_sem] Oper.semAt_some

theorem Own.form {w : World} {B : Nat} {v : Value} {l : List Sp} (h : Own w B v l) : ∃ p cap, v = .slice p l.length cap := by
  obtain ⟨_, ⟨hv, hn⟩ | ⟨g, cap, cur, hv, _⟩⟩ := h
  · exact ⟨none, 0, by rw [hv, hn]⟩
  · exact ⟨_, cap, hv⟩

theorem resCollect (W : World) (B : Nat) (p : Option Addr) (k cap : Nat) (n : Int) (tmps : Array Value) (h2 : tmps[2]?.getD undef = .pointer (some ⟨B, 0, none⟩)) (h3 : tmps[3]?.getD undef = .pointer (some ⟨B + 1, 0, none⟩)) (c1 : W.cell? ⟨B, 0, none⟩ = some (.slice p k cap)) (c2 : W.cell? ⟨B + 1, 0, none⟩ = some (.int .i64 n)) :
    (results Try.f33 tmps).run Try.prog W = .ok (.tuple #[.slice p k cap, .int .i64 n]) W := by
  have hr : Try.f33.results = #[.cell 2 24, .cell 3 27] := Try.results33
  simp [results, hr, h2, h3, go_sem, c1, c2]

set_option maxRecDepth 100000 in
set_option maxHeartbeats 2000000 in
theorem collect_any (gf : Nat) (lb : Array Value) (eg : ∀ args w, (callFunc gf args).run Try.prog w = .ok (.enter gf args) w) (L : List Sp) (hLb : ∀ x ∈ L, FitSp x) (hL : L.length ≤ 1000000) (w : World)
    (hseq : ∀ W0, Below w.heap.size w W0 → w.heap.size < W0.heap.size → W0.cell? ⟨w.heap.size, 0, none⟩ = some (.slice none 0 0) → SeqStopsK Fence.wide 8 Try.prog gf lb enc1 (Kp w.heap.size) (fun ys => ys = L) (fun pre => pre <+: L) L.length W0) :
    Calls Try.prog 33 #[.func (.func gf) #[] lb] w fun e W' => ∃ v, e = .returned (.tuple #[v, .int .i64 (limE L)]) ∧ Own W' w.heap.size v (limS L) ∧ Below w.heap.size w W' := by
  refine (callsIn_wide (n := 9)).1 ?_
  refine callsIn_of_wp_marks Try.func33 rfl trivial ?_ rfl
  simp only [Try.ntmps33, List.size_toArray, List.length_cons, List.length_nil, Nat.reduceAdd, Nat.reduceSub, Array.replicate_succ, Array.replicate_zero, List.push_toArray, List.append_toArray, List.nil_append, List.cons_append]
  gi_wp2
  have bS := (Boxed.new w 24 (.slice none 0 0)).alloc (.cells #[.int .i64 0] 27)
  have bE := Boxed.new (w.alloc (.cells #[.slice none 0 0] 24)) 27 (.int .i64 0)
  rw [World.size_alloc] at bE
  have hB0 : Below w.heap.size w ((w.alloc (.cells #[.slice none 0 0] 24)).alloc (.cells #[.int .i64 0] 27)) := ((Below.refl _ w).alloc (Nat.le_refl _) _).alloc (by simp) _
  have hsz : ((w.alloc (.cells #[.slice none 0 0] 24)).alloc (.cells #[.int .i64 0] 27)).heap.size = w.heap.size + 2 := by simp
  obtain ⟨W0, hW0⟩ : ∃ W0, (w.alloc (.cells #[.slice none 0 0] 24)).alloc (.cells #[.int .i64 0] 27) = W0 := ⟨_, rfl⟩
  rw [hW0] at bS bE hB0 hsz ⊢
  clear hW0
  refine wpIn_rangeFunc_ownH rfl (by omega) (gf := gf) (lb := lb) rfl trivial eg (hseq W0 hB0 (by omega) bS.cell) Kp.trans (fun W l o o' hl => Kp.put (Bl := w.heap.size) (base := W0.heap.size) (by omega) W l o o' hl) (Below.refl _ _) (fun _ => rfl)
    (fun pre W => ((Coll w.heap.size w.heap.size pre W ∧ Boxed W (w.heap.size + 1) 27 (.int .i64 0)) ∧ Below w.heap.size w W) ∧ pre.length ≤ 4096)
    (fun c pre W => ((Boxed W w.heap.size 24 (.slice none 0 0) ∧ Boxed W (w.heap.size + 1) 27 (.int .i64 2)) ∧ Below w.heap.size w W) ∧ (c = .ret ∧ 4096 < pre.length))
    (OwnFrom.and (OwnFrom.and (OwnFrom.and (Own.from (Coll.own _ _) _) (Own.from (boxed_own _ _ _) _)) (ownFrom_below (Nat.le_refl _) (by omega))) (fun _ _ _ _ hs _ _ => hs))
    (fun c => OwnFrom.and (OwnFrom.and (OwnFrom.and (Own.from (boxed_own _ _ _) _) (Own.from (boxed_own _ _ _) _)) (ownFrom_below (Nat.le_refl _) (by omega))) (fun _ _ _ _ hs _ _ => hs))
    ⟨⟨⟨⟨_, bS, Own.nil _ _⟩, bE⟩, hB0⟩, Nat.zero_le _⟩
    (fun x a' W => ∃ Bx, w.heap.size + 1 < Bx ∧ (W.cell? ⟨Bx, 0, none⟩ = some (.int .i64 x.1) ∧ W.cell? ⟨Bx, 1, none⟩ = some (.int .i64 x.2)) ∧ a' = { tmps := #[.func (.func gf) #[] lb, undef, .pointer (some ⟨w.heap.size, 0, none⟩), .pointer (some ⟨w.heap.size + 1, 0, none⟩), .pointer (some ⟨Bx, 0, none⟩), .func (.func gf) #[] lb, .agg #[.int .i64 x.1, .int .i64 x.2], undef, undef, undef, undef, undef, undef, undef, undef], defers := [] })
    ?hAx ?assign ?body ?done ?stop
  case hAx =>
    rintro x a' _ X Y row ⟨Bx, h1, ⟨h2, h3⟩, h4⟩ hg hr
    exact ⟨Bx, h1, ⟨cell_kept h2 hg (fun r e => (hr r e).2), cell_kept h3 hg (fun r e => (hr r e).2)⟩, h4⟩
  case assign =>
    rintro l pre x W K ⟨⟨⟨hc, hE⟩, hB1⟩, h46⟩ hK
    simp only [enc1]
    gi_wp2
    exact hK _ _ ((KeepsOthers.alloc _ _).from _) (Kp.of_below ((Below.refl _ W).alloc (Nat.le_refl _) _) (by obtain ⟨v, hb, _⟩ := hc; exact hb.lt)) ⟨⟨⟨hc.alloc _, hE.alloc _⟩, hB1.alloc hB1.size _⟩, h46⟩ ⟨W.heap.size, hE.lt, ⟨by simp, by simp⟩, rfl⟩
  case body =>
    rintro l pre x a' W hl ⟨r, hr⟩ ⟨⟨⟨⟨v, hv, hown⟩, hE⟩, hB1⟩, h46⟩ ⟨Bx, hBx, ⟨c1, c2⟩, rfl⟩ hlt
    have hsz1 := hE.lt
    obtain ⟨p, cap, rfl⟩ := hown.form
    have hc := hv.cell
    have hfr := hv.frozen
    have hcE := hE.cell
    have hfE := hE.frozen
    by_cases hp : pre.length = 4096
    · have hp' : ((pre.length : Int) == 4096) = true := by rw [hp]; rfl
      have HP := Lib.hid hp
      clear hp
      gi_wp2
      have hv1 := hv.set (.slice none 0 0)
      have hE1 := (hE.other (t := 27) (B' := w.heap.size) (by omega) (.slice none 0 0)).set (.int .i64 2)
      exact ⟨((KeepsOthers.setCell _ _ _).trans (KeepsOthers.setCell _ _ _)).from _, ⟨⟨hv1.other (by omega) _, hE1⟩, (hB1.setCell (p := ⟨w.heap.size, 0, none⟩) (Nat.le_refl _) _).setCell (p := ⟨w.heap.size + 1, 0, none⟩) (Nat.le_succ _) _⟩, rfl, by rw [List.length_append, HP.out]; simp⟩
    · have hp' : ((pre.length : Int) == 4096) = false := beq_eq_false_iff_ne.2 (by omega)
      gi_wp2_with (gi_at_builtin; refine wpListIn_app rfl _ _ rfl w.heap.size _ pre hown rfl x _ rfl (by omega) (by omega) ?_; intro g cap w1 hown1 hg1 hr1; have hKp := Kp.app (n := pre.length + 1) (cap := cap) hv hown hg1 hr1; have hE1 := (hE.alloc (.cells #[.int .i64 x.1, .int .i64 x.2] 23)).kept hg1 (hE.not_row (by decide) hown); obtain ⟨hv1, hv2, hr2, hk2, hb2⟩ := hv.appended (by decide) hown (by omega) (Nat.le_refl _) hown1 hg1; have hc1 := hv1.cell; have hf1 := hv1.frozen)
      exact ⟨hk2.from _, hKp, ⟨⟨⟨_, hv2, hr2⟩, hE1.other (by omega) _⟩, hB1.trans hb2⟩, by rw [List.length_append]; simp; omega⟩
  case done =>
    rintro D ys W hD rfl ⟨⟨⟨⟨v, hv, hown⟩, hE⟩, hB⟩, h46⟩ hK
    have hc := hv.cell
    have hfr := hv.frozen
    have hcE := hE.cell
    have hfE := hE.frozen
    obtain ⟨p, cap, rfl⟩ := hown.form
    gi_wp2
    have hK' := (KeepsOthers.setCell _ ⟨w.heap.size + 1, 0, none⟩ (.int .i64 0)).same D _ ((KeepsOthers.setCell W ⟨w.heap.size, 0, none⟩ (.slice p ys.length cap)).same D _ hK rfl) rfl
    refine ⟨by simp, .inl ⟨_, _, rfl, run_takeDeferred hK', ?_⟩⟩
    have hv1 := (hv.set (.slice p ys.length cap)).other (B' := w.heap.size + 1) (by omega) (.int .i64 0)
    have hE1 := (hE.other (B' := w.heap.size) (by omega) (.slice p ys.length cap)).set (.int .i64 0)
    have hput := grownBy_putObj' ((W.setCell ⟨w.heap.size, 0, none⟩ (.slice p ys.length cap)).setCell ⟨w.heap.size + 1, 0, none⟩ (.int .i64 0)) D (.deferred none)
    have hv2 := hv1.kept hput (fun e => by have := Option.some.inj e; omega)
    have hE2 := hE1.kept hput (fun e => by have := Option.some.inj e; omega)
    have hown2 : Own ((W.setCell ⟨w.heap.size, 0, none⟩ (.slice p ys.length cap)).setCell ⟨w.heap.size + 1, 0, none⟩ (.int .i64 0)) w.heap.size (.slice p ys.length cap) ys :=
      (hown.kept (grownBy_setCell' W w.heap.size _) (.inr (hv.not_row (by decide) hown).symm)).kept (grownBy_setCell' _ (w.heap.size + 1) _) (.inr ((hE.other (B' := w.heap.size) (by omega) (.slice p ys.length cap)).not_row (by decide) (hown.kept (grownBy_setCell' W w.heap.size (.slice p ys.length cap)) (.inr (hv.not_row (by decide) hown).symm))).symm)
    have hlim : ¬ 4096 < ys.length := by omega
    refine ⟨_, resCollect _ w.heap.size p ys.length cap 0 _ rfl rfl hv2.cell hE2.cell, .slice p ys.length cap, ?_, ?_, ?_⟩
    · rw [show limE ys = 0 by unfold limE; rw [if_neg hlim]]
    · rw [show limS ys = ys by unfold limS; rw [if_neg hlim]]; exact hown2.putObj' _ hK' rfl
    · exact ((hB.setCell (p := ⟨w.heap.size, 0, none⟩) (Nat.le_refl _) _).setCell (p := ⟨w.heap.size + 1, 0, none⟩) (Nat.le_succ _) _).trans (belowK_b (w := w) (Nat.le_refl _) _ D _ _ (by omega) hK' rfl rfl)
  case stop =>
    rintro D c pre W hD hpre ⟨⟨⟨hv, hE⟩, hB⟩, rfl, hlen⟩ hK
    have hc := hv.cell
    have hcE := hE.cell
    gi_wp2
    refine ⟨by simp, .inl ⟨_, _, rfl, run_takeDeferred hK, ?_⟩⟩
    have hput := grownBy_putObj' W D (.deferred none)
    have hv2 := hv.kept hput (fun e => by have := Option.some.inj e; omega)
    have hE2 := hE.kept hput (fun e => by have := Option.some.inj e; omega)
    have hlim : 4096 < L.length := Nat.lt_of_lt_of_le hlen hpre.length_le
    refine ⟨_, resCollect _ w.heap.size none 0 0 2 _ rfl rfl hv2.cell hE2.cell, .slice none 0 0, ?_, ?_, ?_⟩
    · rw [show limE L = 2 by unfold limE; rw [if_pos hlim]]
    · rw [show limS L = [] by unfold limS; rw [if_pos hlim]]; exact Own.nil _ _
    · exact hB.trans (belowK_b (w := w) (Nat.le_refl _) W D _ _ (by omega) hK rfl rfl)
end Go.Proofs.Ytdennlekjndfkaa
