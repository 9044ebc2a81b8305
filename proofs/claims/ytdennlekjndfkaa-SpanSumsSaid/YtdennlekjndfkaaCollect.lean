/- slices.AppendSeq and slices.Collect over an iterator of spans. -/
import Derived.Test.YtdennlekjndfkaaApp
import Derived.Test.YtdennlekjndfkaaVals
namespace Go.Proofs.Ytdennlekjndfkaa
open Go.RowKit
attribute [local go_sem] Oper.semAt_some

def enc1 (x : Sp) : Array Value := #[.agg #[.int .i64 x.1, .int .i64 x.2]]

theorem Own.putObj' {W : World} {B : Nat} {v : Value} {l : List Sp} (h : Own W B v l) {b : Nat} {o : Obj} (o' : Obj) (hl : W.heap[b]? = some o) (ho : o.isCells = false) : Own (W.putObj b o') B v l := ownsRow_putObj h o' hl ho

/-- The collecting box holds a slice of the call's own. -/
def Coll (n₀ Bl : Nat) (pre : List Sp) (W : World) : Prop := ∃ v, Boxed W Bl 24 v ∧ Own W n₀ v pre
theorem Coll.own (n₀ Bl : Nat) : Go.Own (Coll n₀ Bl) := by
  rintro s X Y row ⟨v, h1, h2⟩ hg hr
  obtain ⟨v', a, b, _⟩ := holdsRow_own n₀ Bl 24 23 2 (fun s : List Sp => s.length) flat (fun _ _ => True) s X Y row ⟨v, h1, h2, trivial⟩ hg hr
  exact ⟨v', a, b⟩
theorem Coll.alloc {n₀ Bl : Nat} {pre : List Sp} {W : World} (h : Coll n₀ Bl pre W) (o : Obj) : Coll n₀ Bl pre (W.alloc o) := by
  obtain ⟨v, h1, h2⟩ := h
  exact ⟨v, h1.alloc o, Own.alloc h2 o⟩

set_option maxRecDepth 100000 in
set_option maxHeartbeats 2000000 in
theorem appendSeq_in (n : Nat) (hn : 3 ≤ n) (gf : Nat) (lb : Array Value) (eg : ∀ args w, (callFunc gf args).run Try.prog w = .ok (.enter gf args) w) (L : List Sp) (hL : L.length ≤ 1000000) (w : World)
    (hseq : SeqStopsK Fence.wide (n - 1) Try.prog gf lb enc1 (Kp w.heap.size) (fun ys => ys = L) (fun _ => True) L.length (w.alloc (.cells #[.slice none 0 0] 24))) :
    CallsIn Fence.wide n Try.prog 61 #[.slice none 0 0, .func (.func gf) #[] lb] w fun e W' => ∃ v, e = .returned v ∧ Own W' w.heap.size v L ∧ Below w.heap.size w W' := by
  have h1 : 1 ≤ n - 1 := by omega
  refine callsIn_of_wp_marks Try.func61 rfl trivial ?_ rfl
  simp only [Try.ntmps61, List.size_toArray, List.length_cons, List.length_nil, Nat.reduceAdd, Nat.reduceSub, Array.replicate_succ, Array.replicate_zero, List.push_toArray, List.append_toArray, List.nil_append, List.cons_append]
  gi_wp2
  have bS := Boxed.new w 24 (.slice none 0 0)
  have hB0 : Below w.heap.size w (w.alloc (.cells #[.slice none 0 0] 24)) := (Below.refl _ w).alloc (Nat.le_refl _) _
  have hsz : (w.alloc (.cells #[.slice none 0 0] 24)).heap.size = w.heap.size + 1 := by simp
  obtain ⟨W0, hW0⟩ : ∃ W0, w.alloc (.cells #[.slice none 0 0] 24) = W0 := ⟨_, rfl⟩
  rw [hW0] at bS hB0 hsz hseq ⊢
  clear hW0
  refine wpIn_rangeFunc_ownH rfl (by omega) (gf := gf) (lb := lb) rfl trivial eg hseq Kp.trans (fun W l o o' hl => Kp.put (Bl := w.heap.size) (base := W0.heap.size) (by omega) W l o o' hl) (Below.refl _ _) (fun _ => rfl)
    (fun pre W => Coll w.heap.size w.heap.size pre W ∧ Below w.heap.size w W)
    (fun _ _ _ => False)
    (OwnFrom.and (Own.from (Coll.own _ _) _) (ownFrom_below (Nat.le_refl _) (by omega)))
    (fun _ _ _ _ _ hs _ _ => hs)
    ⟨⟨_, bS, Own.nil _ _⟩, hB0⟩
    (fun x a' W => ∃ Bx, w.heap.size < Bx ∧ (W.cell? ⟨Bx, 0, none⟩ = some (.int .i64 x.1) ∧ W.cell? ⟨Bx, 1, none⟩ = some (.int .i64 x.2)) ∧ a' = { tmps := #[.slice none 0 0, .func (.func gf) #[] lb, .pointer (some ⟨w.heap.size, 0, none⟩), undef, .slice none 0 0, .pointer (some ⟨Bx, 0, none⟩), .func (.func gf) #[] lb, .agg #[.int .i64 x.1, .int .i64 x.2], undef, undef, undef, undef, undef], defers := [] })
    ?hAx ?assign ?body ?done ?stop
  case hAx =>
    rintro x a' _ X Y row ⟨Bx, h1, ⟨h2, h3⟩, h4⟩ hg hr
    exact ⟨Bx, h1, ⟨cell_kept h2 hg (fun r e => (hr r e).2), cell_kept h3 hg (fun r e => (hr r e).2)⟩, h4⟩
  case assign =>
    rintro l pre x W K ⟨hc, hB1⟩ hK
    simp only [enc1]
    gi_wp2
    exact hK _ _ ((KeepsOthers.alloc _ _).from _) (Kp.of_below ((Below.refl _ W).alloc (Nat.le_refl _) _) (by have := hB1.size; obtain ⟨v, hb, _⟩ := hc; exact hb.lt)) ⟨hc.alloc _, hB1.alloc hB1.size _⟩ ⟨W.heap.size, by obtain ⟨v, hb, _⟩ := hc; exact hb.lt, ⟨by simp, by simp⟩, rfl⟩
  case body =>
    rintro l pre x a' W hl ⟨r, hr⟩ ⟨⟨v, hv, hown⟩, hB1⟩ ⟨Bx, hBx, ⟨c1, c2⟩, rfl⟩ hlt
    have hc := hv.cell
    have hsz1 := hB1.size
    gi_wp2_with (gi_at_builtin; refine wpListIn_app rfl _ _ rfl w.heap.size v pre hown rfl x _ rfl (by omega) (by omega) ?_; intro g cap w1 hown1 hg1 hr1; have hKp := Kp.app (n := pre.length + 1) (cap := cap) hv hown hg1 hr1; obtain ⟨hv1, hv2, hr2, hk2, hb2⟩ := hv.appended (by decide) hown (by omega) (Nat.le_refl _) hown1 hg1; have hc1 := hv1.cell; have hf1 := hv1.frozen)
    exact ⟨hk2.from _, hKp, ⟨_, hv2, hr2⟩, hB1.trans hb2⟩
  case done =>
    rintro D ys W hD rfl ⟨⟨v, hv, hown⟩, hB⟩ hK
    have hc := hv.cell
    gi_wp2
    refine ⟨by simp, .inl ⟨_, _, rfl, run_takeDeferred hK, ?_⟩⟩
    exact ⟨_, results_tmp rfl _ _ _, v, rfl, hown.putObj' _ hK rfl, hB.trans (belowK_b (w := w) (Nat.le_refl _) W D _ _ (by omega) hK rfl rfl)⟩
  case stop =>
    rintro D c pre W _ _ h _
    exact h.elim
end Go.Proofs.Ytdennlekjndfkaa
