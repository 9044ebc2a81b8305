/- Add. -/
import Derived.Test.YtdennlekjndfkaaPairs
import Derived.Test.YtdennlekjndfkaaRefG
import Derived.Test.YtdennlekjndfkaaRefH
namespace Go.Proofs.Ytdennlekjndfkaa
open Go.RowKit
attribute [local go_sem] Oper.semAt_some

theorem boxed_below {W W' : World} {B : Nat} {t : TypeId} {v : Value} (h : Boxed W B t v) (k : Below W.heap.size W W') : Boxed W' B t v := (k.block B h.lt).trans h
theorem spAt_set {w : World} {B b : Nat} {p : Option Addr} {l : List Sp} (h : SpAt w B p l) (hb : b < B) (v : Value) : SpAt (w.setCell ⟨b, 0, none⟩ v) B p l :=
  ⟨h.fit, h.len, fun hl => by
    obtain ⟨c, off, h1, h2, h3, h4⟩ := h.at' hl
    have e : ∀ o, (w.setCell ⟨b, 0, none⟩ v).cell? ⟨c, o, none⟩ = w.cell? ⟨c, o, none⟩ := fun o => World.cell?_of_block (a := ⟨c, o, none⟩) (Below.heap_setCell _ _ _ _ (show c ≠ b by omega))
    exact ⟨c, off, h1, h2, by simpa using h3, fun i hi => ⟨(e _).trans (h4 i hi).1, (e _).trans (h4 i hi).2⟩⟩⟩
def sm2 (x : BdP) : Sp := sm x.1.1 x.1.2
theorem coll2_own (n₀ Bl : Nat) : Go.Own (fun (pre : List BdP) W => Coll n₀ Bl (pre.map sm2) W) := fun s A C row hs hg hr => Coll.own n₀ Bl (s.map sm2) A C row hs hg hr
theorem sm2_sums (L : List BdP) (a b : List Sp) (h : L.map (·.1) = pairL a b) : L.map sm2 = sumsL a b := by
  rw [← pairL_sums, ← h, List.map_map]; rfl
theorem keepsOthers_of_below {W W' : World} (h : Below W.heap.size W W') : KeepsOthers W W' := ⟨h.size, fun k o ho _ => (h.block k (Array.getElem?_eq_some_iff.1 ho).1).trans ho⟩
theorem resAdd (W : World) (B : Nat) (v : Value) (hv : ∃ p k cap, v = .slice p k cap) (n : Int) (tmps : Array Value) (h2 : tmps[4]?.getD undef = .pointer (some ⟨B, 0, none⟩)) (h3 : tmps[5]?.getD undef = .pointer (some ⟨B + 1, 0, none⟩)) (c1 : W.cell? ⟨B, 0, none⟩ = some v) (c2 : W.cell? ⟨B + 1, 0, none⟩ = some (.int .i64 n)) :
    (results Try.f24 tmps).run Try.prog W = .ok (.tuple #[v, .int .i64 n]) W := by
  have hr : Try.f24.results = #[.cell 4 24, .cell 5 27] := Try.results24
  obtain ⟨p, k, cap, rfl⟩ := hv
  simp [results, hr, h2, h3, go_sem, c1, c2]

set_option maxRecDepth 100000 in
set_option maxHeartbeats 2000000 in
theorem add_bad (p q : Option Addr) (cap cap' : Nat) (a b : List Sp) (w : World) (B B' : Nat) (ha : SpAt w B p a) (hb : SpAt w B' q b) (h : ¬ errLL a b = 0) :
    Calls Try.prog 24 #[.slice p a.length cap, .slice q b.length cap'] w (Res w [] (errLL a b)) := by
  have hb0 : Below w.heap.size w ((w.alloc (.cells #[.slice none 0 0] 24)).alloc (.cells #[.int .i64 0] 27)) := ((Below.refl _ w).alloc (Nat.le_refl _) _).alloc (by simp) _
  have HC := Lib.hid (tidy_bad p q cap cap' a b _ B B' (ha.below hb0) (hb.below hb0) h)
  have h2 : (errLL a b != 0) = true := by simpa using h
  generalize hE : errLL a b = er at *
  clear hE h ha hb
  go_enter Try.func24, Try.ntmps24
  go_wp2_with fail
  refine HC.out.mono ?_
  rintro e w1 ⟨rfl, hb1⟩
  have bS := boxed_below ((Boxed.new w 24 (.slice none 0 0)).alloc (.cells #[.int .i64 0] 27)) hb1
  have bE := Boxed.new (w.alloc (.cells #[.slice none 0 0] 24)) 27 (.int .i64 0)
  rw [World.size_alloc] at bE
  have bE := boxed_below bE hb1
  have HB := Lib.hid (hb0.trans (hb1.mono (by simp; omega)))
  have hc := bS.cell
  have hfr := bS.frozen
  have hcE := bE.cell
  have hfE := bE.frozen
  clear hb1 hb0
  go_wp2_with fail
  have bE1 := bE.set (.int .i64 er)
  have bS1 := bS.other (B' := w.heap.size + 1) (by omega) (.int .i64 er)
  have HB1 := Lib.hid (HB.out.setCell (p := ⟨w.heap.size + 1, 0, none⟩) (Nat.le_succ _) (.int .i64 er))
  have hc1 := bS1.cell
  have hfr1 := bS1.frozen
  have hcE1 := bE1.cell
  have hfE1 := bE1.frozen
  generalize w1.setCell ⟨w.heap.size + 1, 0, none⟩ (.int .i64 er) = w2 at *
  go_region
  go_wp2_with fail
  have bS2 := (bS1.set (.slice none 0 0)).other (B' := w.heap.size + 1) (by omega) (.int .i64 er)
  have bE2 := (bE1.other (B' := w.heap.size) (by omega) (.slice none 0 0)).set (.int .i64 er)
  refine bodyPost_ret (resAdd _ w.heap.size (.slice none 0 0) ⟨_, _, _, rfl⟩ er _ rfl rfl ?_ ?_) rfl ?_
  · exact bS2.cell
  · exact bE2.cell
  · exact ⟨none, 0, rfl, SpAt.nil, fun _ => rfl, below_drewN ((HB1.out.setCell (p := ⟨w.heap.size, 0, none⟩) (Nat.le_refl _) _).setCell (p := ⟨w.heap.size + 1, 0, none⟩) (Nat.le_succ _) _) 1⟩

set_option maxRecDepth 100000 in
set_option maxHeartbeats 4000000 in
theorem add_ok (p q : Option Addr) (cap cap' : Nat) (a b : List Sp) (w : World) (B B' : Nat) (ha : SpAt w B p a) (hb : SpAt w B' q b) (h : errLL a b = 0) (hpr : (canon a).length * (canon b).length ≤ 65536) :
    Calls Try.prog 24 #[.slice p a.length cap, .slice q b.length cap'] w (Res w (addS a b) (addE a b)) := by
  obtain ⟨ea, eb⟩ := errLL_zero h
  have hbb : Below w.heap.size w ((w.alloc (.cells #[.slice none 0 0] 24)).alloc (.cells #[.int .i64 0] 27)) := ((Below.refl _ w).alloc (Nat.le_refl _) _).alloc (by simp) _
  have HC := Lib.hid (tidy_ok p q cap cap' a b _ B B' (ha.below hbb) (hb.below hbb) h)
  have HOK := Lib.hid (addE_ok h hpr)
  have HBAD := Lib.hid (addE_bad h hpr)
  have HXB := Lib.hid (canon_bd _ (errL_bd ea))
  have HYB := Lib.hid (canon_bd _ (errL_bd eb))
  have hLX := Nat.le_trans (canon_len _ (errL_bd ea)) (errL_all ea).1
  have hLY := Nat.le_trans (canon_len _ (errL_bd eb)) (errL_all eb).1
  have HPX := Lib.hid (canon_tidy a (errL_pos ea)).1.1
  have HPY := Lib.hid (canon_tidy b (errL_pos eb)).1.1
  have HBB := Lib.hid hbb
  clear h ea eb ha hb hbb
  have hp0 : (0 : Int) ≤ ((canon a).length : Int) * ((canon b).length : Int) := Int.mul_nonneg (by omega) (by omega)
  have hp1 : (((canon a).length * (canon b).length : Nat) : Int) ≤ 65536 := by omega
  have hp2 : ((canon a).length : Int) * ((canon b).length : Int) ≤ 65536 := by rw [← Int.natCast_mul]; exact hp1
  clear hp1
  have hp3 := Lib.hid hpr
  clear hpr
  generalize canon a = X at *
  generalize canon b = Y at *
  refine (callsIn_wide (n := 9)).1 ?_
  refine callsIn_of_wp_marks Try.func24 rfl trivial ?_ rfl
  simp only [Try.ntmps24, List.size_toArray, List.length_cons, List.length_nil, Nat.reduceAdd, Nat.reduceSub, Array.replicate_succ, Array.replicate_zero, List.push_toArray, List.append_toArray, List.nil_append, List.cons_append]
  gi_wp2_with fail
  refine ⟨trivial, ?_⟩
  refine (callsIn_wide.2 HC.out).mono ?_
  rintro e w1 ⟨p1, c1, p2, c2, rfl, hs1, hs2, hb1⟩
  have bS := boxed_below ((Boxed.new w 24 (.slice none 0 0)).alloc (.cells #[.int .i64 0] 27)) hb1
  have bE := Boxed.new (w.alloc (.cells #[.slice none 0 0] 24)) 27 (.int .i64 0)
  rw [World.size_alloc] at bE
  have bE := boxed_below bE hb1
  have HB := Lib.hid (HBB.out.trans (hb1.mono (by simp; omega)))
  have hc := bS.cell
  have hfr := bS.frozen
  have hcE := bE.cell
  have hfE := bE.frozen
  have hsz : ((w.alloc (.cells #[.slice none 0 0] 24)).alloc (.cells #[.int .i64 0] 27)).heap.size = w.heap.size + 1 + 1 := by simp
  rw [hsz] at hs1 hs2
  clear hb1 HBB HC
  have bE1 := bE.set (.int .i64 0)
  have bS1 := bS.other (B' := w.heap.size + 1) (by omega) (.int .i64 0)
  have HS1 := Lib.hid (spAt_set hs1 (b := w.heap.size + 1) (by omega) (.int .i64 0))
  have HS2 := Lib.hid (spAt_set hs2 (b := w.heap.size + 1) (by omega) (.int .i64 0))
  have HB1 := Lib.hid (HB.out.setCell (p := ⟨w.heap.size + 1, 0, none⟩) (Nat.le_succ _) (.int .i64 0))
  clear hs1 hs2
  obtain ⟨i0, hi, hz0, hz1, hz2⟩ := info_parts Try.infoSp
  gi_wp2_with (gi_at_make; refine wpListIn_make_own _ rfl _ _ 24 rfl w1.heap.size 23 i0 _ 2 Try.underlying24 hi hz0 hz1 .i64 .i64 _ (X.length * Y.length) rfl rfl (Int.natCast_mul _ _).symm (by have := hp3.out; rw [hz2]; omega) (by have := hp3.out; unfold maxLen; omega) (by simp) ?_; intro w2 hown2 hg2)
  refine ⟨trivial, ?_⟩
  refine (callsIn_wide.2 (pairsF_any p1 p2 _ c1 _ c2 _)).mono ?_
  rintro e w3 ⟨rfl, rfl⟩
  have hsw : (w1.setCell ⟨w.heap.size + 1, 0, none⟩ (.int .i64 0)).heap.size = w1.heap.size := by simp
  rw [hsw] at hown2
  have hR : w1.heap.size < w2.heap.size := (hown2.lt w1.heap.size rfl).2
  have hbg : Below (w1.setCell ⟨w.heap.size + 1, 0, none⟩ (.int .i64 0)).heap.size (w1.setCell ⟨w.heap.size + 1, 0, none⟩ (.int .i64 0)) w2 := (Below.refl _ _).grown hg2 (Nat.le_refl _) (fun k hk => by cases hk)
  have hbA : Below w2.heap.size w2 (((w2.alloc (.cells #[.slice (some ⟨w1.heap.size, 0, none⟩) 0 (X.length * Y.length)] 24)).alloc (.cells #[.slice p1 X.length c1] 24)).alloc (.cells #[.slice p2 Y.length c2] 24)) := (((Below.refl _ _).alloc (Nat.le_refl _) _).alloc (by simp) _).alloc (by simp; omega) _
  have bT := ((Boxed.new w2 24 (.slice (some ⟨w1.heap.size, 0, none⟩) 0 (X.length * Y.length))).alloc (.cells #[.slice p1 X.length c1] 24)).alloc (.cells #[.slice p2 Y.length c2] 24)
  have bA := (Boxed.new (w2.alloc (.cells #[.slice (some ⟨w1.heap.size, 0, none⟩) 0 (X.length * Y.length)] 24)) 24 (.slice p1 X.length c1)).alloc (.cells #[.slice p2 Y.length c2] 24)
  have bB := Boxed.new ((w2.alloc (.cells #[.slice (some ⟨w1.heap.size, 0, none⟩) 0 (X.length * Y.length)] 24)).alloc (.cells #[.slice p1 X.length c1] 24)) 24 (.slice p2 Y.length c2)
  simp only [World.size_alloc] at bA bB ⊢
  have bE2 := boxed_below (bE1.kept hg2 (by simp)) hbA
  have bS2 := boxed_below (bS1.kept hg2 (by simp)) hbA
  have hown3 : Own _ w1.heap.size (.slice (some ⟨w1.heap.size, 0, none⟩) 0 (X.length * Y.length)) [] := Own.below (l := []) hown2 hbA (Nat.le_refl _)
  have HS3 := Lib.hid ((HS1.out.below hbg).below hbA)
  have HS4 := Lib.hid ((HS2.out.below hbg).below hbA)
  have hsz3 : (((w2.alloc (.cells #[.slice (some ⟨w1.heap.size, 0, none⟩) 0 (X.length * Y.length)] 24)).alloc (.cells #[.slice p1 X.length c1] 24)).alloc (.cells #[.slice p2 Y.length c2] 24)).heap.size = w2.heap.size + 3 := by simp
  have HBW := Lib.hid ((HB1.out.trans (hbg.mono (by have := HB1.out.size; simpa using this))).trans (hbA.mono (by have := HB1.out.size; simp at this; omega)))
  have HX1 : Hid (∀ z, p1 = some z → X ≠ [] → z.block < w1.heap.size) := fun z hz hne => by
    obtain ⟨b, off, e, _, h3, _⟩ := HS1.out.at' hne
    rw [hz] at e; obtain rfl := Option.some.inj e; simpa using h3
  have HX2 : Hid (∀ z, p2 = some z → Y ≠ [] → z.block < w1.heap.size) := fun z hz hne => by
    obtain ⟨b, off, e, _, h3, _⟩ := HS2.out.at' hne
    rw [hz] at e; obtain rfl := Option.some.inj e; simpa using h3
  obtain ⟨W0, hW0⟩ : ∃ W0, (((w2.alloc (.cells #[.slice (some ⟨w1.heap.size, 0, none⟩) 0 (X.length * Y.length)] 24)).alloc (.cells #[.slice p1 X.length c1] 24)).alloc (.cells #[.slice p2 Y.length c2] 24)) = W0 := ⟨_, rfl⟩
  rw [hW0] at bT bA bB bE2 bS2 hown3 hsz3 HS3 HS4 HBW ⊢
  have hNR : w.heap.size + 2 ≤ w1.heap.size := by have := bE.lt; omega
  clear hW0 hbA hbg hown2 hg2 HS1 HS2 HB1 HB bE1 bS1 bE bS hc hfr hcE hfE
  generalize w1.heap.size = R at *
  generalize w2.heap.size = S at *
  generalize hN : w.heap.size = N at *
  gi_wp2_with fail
  have hrbS : rb S W0 = R := by unfold rb; rw [bT.cell]
  have hLb : ∀ z ∈ pairL X Y, Bd z.1 ∧ Bd z.2 := fun z hz => ⟨HXB.out _ (pairL_mem hz).1, HYB.out _ (pairL_mem hz).2⟩
  obtain ⟨L, hL⟩ : ∃ L : List BdP, L.map (·.1) = pairL X Y := ⟨bdL _ hLb, bdL_val _ _⟩
  have hLl : L.length = X.length * Y.length := by rw [← pairL_len, ← hL, List.length_map]
  have HLS := Lib.hid (sm2_sums L X Y hL)
  have hRd1 : Rd S W0 p1 X := ⟨HS3.out.mono (Nat.zero_le _), fun hne z hz => by have := HX1.out z hz hne; exact ⟨by omega, by omega, by omega⟩, bT.lt⟩
  have hRd2 : Rd S W0 p2 Y := ⟨HS4.out.mono (Nat.zero_le _), fun hne z hz => by have := HX2.out z hz hne; exact ⟨by omega, by omega, by omega⟩, bT.lt⟩
  have hseq := pairs_stops 8 (by omega) (S + 1) (S + 1 + 1) S p1 p2 c1 c2 X Y (by omega) (by omega) W0 L hL ⟨bA.cell, by have := bA.lt; exact ⟨by omega, by omega, by omega⟩⟩ ⟨bB.cell, by have := bB.lt; exact ⟨by omega, by omega, by omega⟩⟩ hRd1 hRd2 (by omega)
  have hp4 := hp3.out
  refine wpIn_rangeFunc_ownH rfl (by omega) (gf := 55) (lb := #[.pointer (some ⟨S + 1, 0, none⟩), .pointer (some ⟨S + 1 + 1, 0, none⟩)]) rfl trivial eg55 hseq Kp2.trans (fun W l o o' hl => Kp2.put (Bl := S) (base := W0.heap.size) (by omega) W l o o' hl) (Below.refl _ _) (fun _ => rfl)
    (fun pre W => (((Coll R S (pre.map sm2) W ∧ Boxed W N 24 (.slice none 0 0)) ∧ Boxed W (N + 1) 27 (.int .i64 0)) ∧ Below N w W) ∧ (∀ z ∈ pre.map sm2, okSp z = true))
    (fun c pre W => ((Boxed W N 24 (.slice none 0 0) ∧ Boxed W (N + 1) 27 (.int .i64 10)) ∧ Below N w W) ∧ (c = .ret ∧ ∃ z ∈ pre.map sm2, okSp z = false))
    (OwnFrom.and (OwnFrom.and (OwnFrom.and (OwnFrom.and (Own.from (coll2_own _ _) _) (Own.from (boxed_own _ _ _) _)) (Own.from (boxed_own _ _ _) _)) (ownFrom_below (Nat.le_of_eq hN.symm) (by omega))) (fun _ _ _ _ hs _ _ => hs))
    (fun c => OwnFrom.and (OwnFrom.and (OwnFrom.and (Own.from (boxed_own _ _ _) _) (Own.from (boxed_own _ _ _) _)) (ownFrom_below (Nat.le_of_eq hN.symm) (by omega))) (fun _ _ _ _ hs _ _ => hs))
    ⟨⟨⟨⟨⟨_, bT, hown3⟩, bS2⟩, bE2⟩, HBW.out⟩, by simp⟩
    (fun x a' W => ∃ Bx By, (W.cell? ⟨Bx, 0, none⟩ = some (.int .i64 x.1.1.1) ∧ W.cell? ⟨Bx, 1, none⟩ = some (.int .i64 x.1.1.2)) ∧ (W.cell? ⟨By, 0, none⟩ = some (.int .i64 x.1.2.1) ∧ W.cell? ⟨By, 1, none⟩ = some (.int .i64 x.1.2.2)) ∧ a' = { tmps := #[.slice p1 X.length c1, .slice p2 Y.length c2, undef, undef, .pointer (some ⟨N, 0, none⟩), .pointer (some ⟨N + 1, 0, none⟩), .pointer (some ⟨S, 0, none⟩), .pointer (some ⟨Bx, 0, none⟩), .pointer (some ⟨By, 0, none⟩), undef, undef, .tuple #[.slice p1 X.length c1, .slice p2 Y.length c2, .int .i64 0], .slice p a.length cap, .slice q b.length cap', .tuple #[.slice p1 X.length c1, .slice p2 Y.length c2, .int .i64 0], .slice p1 X.length c1, .slice p2 Y.length c2, .int .i64 0, .int .i64 0, .bool false, undef, .slice p1 X.length c1, .int .i64 X.length, .slice p2 Y.length c2, .int .i64 Y.length, .int .i64 (X.length * Y.length), .bool (decide (65536 < (X.length : Int) * Y.length)), .slice p1 X.length c1, .int .i64 X.length, .slice p2 Y.length c2, .int .i64 Y.length, .int .i64 (X.length * Y.length), .slice (some ⟨R, 0, none⟩) 0 (X.length * Y.length), .slice p1 X.length c1, .slice p2 Y.length c2, .func (.func 55) #[] #[.pointer (some ⟨S + 1, 0, none⟩), .pointer (some ⟨S + 1 + 1, 0, none⟩)], .agg #[.int .i64 x.1.1.1, .int .i64 x.1.1.2], .agg #[.int .i64 x.1.2.1, .int .i64 x.1.2.2], undef, undef, undef, undef, undef, undef, undef, undef, undef, undef, undef, undef, undef, undef, undef, undef, undef, undef, undef, undef, undef, undef, undef, undef, undef], defers := [] })
    ?hAx ?assign ?body ?done ?stop
  case hAx =>
    rintro x a' _ A C row ⟨Bx, By, ⟨h1, h2⟩, ⟨h3, h4⟩, h5⟩ hg hr
    exact ⟨Bx, By, ⟨cell_kept h1 hg (fun r e => (hr r e).2), cell_kept h2 hg (fun r e => (hr r e).2)⟩, ⟨cell_kept h3 hg (fun r e => (hr r e).2), cell_kept h4 hg (fun r e => (hr r e).2)⟩, h5⟩
  case assign =>
    rintro l pre x W K ⟨⟨⟨⟨hc, hS⟩, hE⟩, hB1⟩, hok⟩ hK
    simp only [enc2]
    gi_wp2
    have hba : Below W.heap.size W ((W.alloc (.cells #[.int .i64 x.1.1.1, .int .i64 x.1.1.2] 23)).alloc (.cells #[.int .i64 x.1.2.1, .int .i64 x.1.2.2] 23)) := ((Below.refl _ W).alloc (Nat.le_refl _) _).alloc (by simp) _
    exact hK _ _ ((keepsOthers_of_below hba).from _) (Kp2.of_below hba (by obtain ⟨v, hb, _⟩ := hc; exact hb.lt)) ⟨⟨⟨⟨(hc.alloc _).alloc _, (hS.alloc _).alloc _⟩, (hE.alloc _).alloc _⟩, hB1.trans (hba.mono (by have := hB1.size; omega))⟩, hok⟩ ⟨W.heap.size, W.heap.size + 1, ⟨later3 (by simp) (by simp), later3 (by simp) (by simp)⟩, ⟨by simp, by simp⟩, rfl⟩
  case body =>
    rintro l pre ⟨x, hx, hy⟩ a' W hl ⟨r, hr⟩ ⟨⟨⟨⟨⟨v, hv, hown⟩, hS⟩, hE⟩, hB1⟩, hok⟩ ⟨Bx, By, ⟨x1, x2⟩, ⟨y1, y2⟩, rfl⟩ hlt
    dsimp only at *
    have hfit : FitSp (sm x.1 x.2) := by unfold Bd at hx hy; unfold FitSp sm; dsimp only; omega
    have hlen : pre.length < 8796093022207 := by omega
    unfold Bd at hx hy
    obtain ⟨p0, cap0, rfl⟩ := hown.form
    rw [List.length_map] at hown hv
    have hWx : Bx < W.heap.size := World.block_lt_of_cell? _ ⟨Bx, 0, none⟩ x1
    have hWy : By < W.heap.size := World.block_lt_of_cell? _ ⟨By, 0, none⟩ y1
    have hbC0 : Below W.heap.size W (W.alloc (.cells #[.int .i64 (x.1.1 + x.2.1), .int .i64 (x.1.2 + x.2.2)] 23)) := (Below.refl _ W).alloc (Nat.le_refl _) _
    have HCk := Lib.hid (check_any (sm x.1 x.2) hfit (W.alloc (.cells #[.int .i64 (x.1.1 + x.2.1), .int .i64 (x.1.2 + x.2.2)] 23)))
    have HI := Lib.hid hfit
    clear hfit
    by_cases hk : okSp (sm x.1 x.2) = true
    · have hes : errSp (sm x.1 x.2) = 0 := by unfold errSp; rw [if_pos hk]
      rw [hes] at HCk
      have HK := Lib.hid hk
      clear hk hes
      gi_wp2_with fail
      refine ⟨trivial, ?_⟩
      refine (CallsIn.inRound l (callsIn_wide.2 HCk.out)).mono ?_
      rintro e W1 ⟨rfl, hb1⟩
      have hbC := hbC0.trans (hb1.mono (by simp))
      have hS1 := boxed_below hS hbC
      have hE1 := boxed_below hE hbC
      have hv1 := boxed_below hv hbC
      have hown1 := Own.below hown hbC (Nat.le_refl _)
      have hB2 := hB1.trans (hbC.mono (by have := hB1.size; omega))
      have hRW : R ≤ W1.heap.size := by have := hv1.lt; omega
      have s1 : W1.cell? ⟨W.heap.size, 0, none⟩ = some (.int .i64 (x.1.1 + x.2.1)) := (hb1.cell (p := ⟨W.heap.size, 0, none⟩) (by simp)).trans (by simp)
      have s2 : W1.cell? ⟨W.heap.size, 1, none⟩ = some (.int .i64 (x.1.2 + x.2.2)) := (hb1.cell (p := ⟨W.heap.size, 1, none⟩) (by simp)).trans (by simp)
      have hKb := Kp2.of_below hbC hv.lt
      have hKO := keepsOthers_of_below hbC
      have hc1 := hv1.cell
      have hf1 := hv1.frozen
      have HBc := Lib.hid hbC
      clear hb1 hbC hbC0 hS hE hv hown hB1 x1 x2 y1 y2 HCk
      gi_wp2_with (gi_at_builtin; refine wpListIn_app rfl _ _ rfl R _ (pre.map sm2) hown1 rfl (sm x.1 x.2) _ rfl (by rw [List.length_map]; omega) hRW ?_; intro g cap w4 hown4 hg4 hr4; rw [List.length_map] at hown4 ⊢; have hKp := hKb.trans (Kp2.app (n := pre.length + 1) (cap := cap) hv1 hown1 hg4 hr4 hown4); have hE4 := (hE1.alloc (.cells #[.int .i64 (sm x.1 x.2).1, .int .i64 (sm x.1 x.2).2] 23)).kept hg4 (hE1.not_row (by decide) hown1); have hS4 := (hS1.alloc (.cells #[.int .i64 (sm x.1 x.2).1, .int .i64 (sm x.1 x.2).2] 23)).kept hg4 (hS1.not_row (by decide) hown1); obtain ⟨hv4, hv5, hr5, hk5, hb5⟩ := hv1.appended (by decide) hown1 (by omega) (by omega) hown4 hg4; have hc4 := hv4.cell; have hf4 := hv4.frozen)
      exact ⟨(hKO.trans hk5).from _, hKp, ⟨⟨⟨⟨_, hv5, by rw [List.map_append]; exact hr5⟩, hS4.other (by omega) _⟩, hE4.other (by omega) _⟩, hB2.trans (hb5.mono (by omega))⟩, fun z hz => by
        rw [List.map_append] at hz
        rcases List.mem_append.1 hz with hz | hz
        · exact hok z hz
        · obtain rfl := List.mem_singleton.1 hz
          exact HK.out⟩
    · have hes : errSp (sm x.1 x.2) = 10 := by unfold errSp; rw [if_neg hk]
      rw [hes] at HCk
      have HK := Lib.hid (Bool.eq_false_iff.2 hk)
      clear hk hes
      gi_wp2_with fail
      refine ⟨trivial, ?_⟩
      refine (CallsIn.inRound l (callsIn_wide.2 HCk.out)).mono ?_
      rintro e W1 ⟨rfl, hb1⟩
      have hbC := hbC0.trans (hb1.mono (by simp))
      have hS1 := boxed_below hS hbC
      have hE1 := boxed_below hE hbC
      have hB2 := hB1.trans (hbC.mono (by have := hB1.size; omega))
      have hKO := keepsOthers_of_below hbC
      have hc1 := hS1.cell
      have hf1 := hS1.frozen
      have hc2 := hE1.cell
      have hf2 := hE1.frozen
      clear hb1 hbC hbC0 hS hE hv hown hB1 x1 x2 y1 y2 HCk
      gi_wp2_with fail
      have hS2 := (hS1.set (.slice none 0 0)).other (B' := N + 1) (by omega) (.int .i64 10)
      have hE2 := (hE1.other (B' := N) (by omega) (.slice none 0 0)).set (.int .i64 10)
      exact ⟨((hKO.trans (KeepsOthers.setCell _ _ _)).trans (KeepsOthers.setCell _ _ _)).from _, ⟨⟨hS2, hE2⟩, (hB2.setCell (p := ⟨N, 0, none⟩) (Nat.le_refl _) _).setCell (p := ⟨N + 1, 0, none⟩) (Nat.le_succ _) _⟩, rfl, sm x.1 x.2, by rw [List.map_append]; exact List.mem_append.2 (.inr (List.mem_singleton.2 rfl)), HK.out⟩
  case done =>
    rintro D ys W hD rfl ⟨⟨⟨⟨⟨v, hv, hown⟩, hS⟩, hE⟩, hB⟩, hok⟩ hK
    rw [HLS.out] at hown hok
    have hzl : (sumsL X Y).length ≤ 65536 := by rw [sumsL_len]; exact hp4
    have hall : allOk X Y = true := by rw [allOk_sums]; exact List.all_eq_true.2 hok
    have HR := Lib.hid (HOK.out hall)
    rw [addC_canon HPX.out HPY.out] at HR
    have HZB := Lib.hid (show ∀ z ∈ sumsL X Y, Bd z from fun z hz => Bd.ok (hok z hz))
    have HZP := Lib.hid (sumsL_pos HPX.out HPY.out)
    clear hall hok HBAD HOK
    generalize sumsL X Y = zs at *
    obtain ⟨r, rc, rfl, hsp, _⟩ := hown.reads (fit_of_bd HZB.out) (by omega)
    have hc1 := hv.cell
    have hf1 := hv.frozen
    have hb4 : Below W.heap.size W (W.alloc (.cells #[.slice r zs.length rc] 24)) := (Below.refl _ _).alloc (Nat.le_refl _) _
    have HCJ := Lib.hid (collectJoined W.heap.size r rc zs _ R (by simp) (hsp.below hb4) (by omega) HZB.out HZP.out)
    gi_wp2_with fail
    refine ⟨trivial, ?_⟩
    refine (callsIn_wide.2 (joinedF_any r _ rc W)).mono ?_
    rintro e w5 ⟨rfl, rfl⟩
    gi_wp2_with fail
    refine ⟨trivial, ?_⟩
    refine (callsIn_wide.2 HCJ.out).mono ?_
    rintro e w5 ⟨v5, rfl, hown5, hf5, hl5, hb5⟩
    obtain ⟨q5, c5, rfl⟩ := hown5.form
    have hbb5 := hb4.trans (hb5.mono (by simp))
    have hS5 := boxed_below hS hbb5
    have hE5 := boxed_below hE hbb5
    have hB5 := hB.trans (hbb5.mono (by have := hB.size; omega))
    have hK5 := (hbb5.block D (Array.getElem?_eq_some_iff.1 hK).1).trans hK
    have hc6 := hS5.cell
    have hf6 := hS5.frozen
    have hc7 := hE5.cell
    have hf7 := hE5.frozen
    gi_wp2_with fail
    have hNW : N + 1 < W.heap.size + 1 := by have := hE.lt; omega
    have hS6 := (hS5.set (.slice q5 (limS (canon zs)).length c5)).other (B' := N + 1) (by omega) (.int .i64 (limE (canon zs)))
    have hE6 := (hE5.other (B' := N) (by omega) (.slice q5 (limS (canon zs)).length c5)).set (.int .i64 (limE (canon zs)))
    have hK6 := (KeepsOthers.setCell _ ⟨N + 1, 0, none⟩ (.int .i64 (limE (canon zs)))).same D _ ((KeepsOthers.setCell w5 ⟨N, 0, none⟩ (.slice q5 (limS (canon zs)).length c5)).same D _ hK5 rfl) rfl
    refine ⟨by simp, .inl ⟨_, _, rfl, run_takeDeferred hK6, ?_⟩⟩
    have hput := grownBy_putObj' ((w5.setCell ⟨N, 0, none⟩ (.slice q5 (limS (canon zs)).length c5)).setCell ⟨N + 1, 0, none⟩ (.int .i64 (limE (canon zs)))) D (.deferred none)
    have hS7 := hS6.kept hput (fun e => by have := Option.some.inj e; omega)
    have hE7 := hE6.kept hput (fun e => by have := Option.some.inj e; omega)
    have hown6 := Own.set (Own.set hown5 (a := ⟨N, 0, none⟩) (by simp; omega) (.slice q5 (limS (canon zs)).length c5)) (a := ⟨N + 1, 0, none⟩) (by simp; omega) (.int .i64 (limE (canon zs)))
    have hown7 := hown6.putObj' (.deferred none) hK6 rfl
    obtain ⟨q6, c6, e6, hsp7, _, hnil, _⟩ := hown7.reads hf5 (by omega)
    injection e6 with e7 e8 e9
    subst e7; subst e9
    refine ⟨_, resAdd _ N _ ⟨_, _, _, rfl⟩ _ _ rfl rfl hS7.cell hE7.cell, q5, c5, ?_, ?_, hnil, ?_⟩
    · rw [HR.out.1, HR.out.2]
    · rw [HR.out.2]; exact hsp7.mono (by simp; omega)
    · rw [hN]
      exact ((hB5.setCell (p := ⟨N, 0, none⟩) (Nat.le_refl _) _).setCell (p := ⟨N + 1, 0, none⟩) (Nat.le_succ _) _).trans (belowK_b (w := w) (by omega) _ D _ _ (by omega) hK6 rfl rfl)
  case stop =>
    rintro D c pre W hD hpre ⟨⟨⟨hS, hE⟩, hB⟩, rfl, z, hz, hzk⟩ hK
    have hall : allOk X Y = false := by
      rw [allOk_sums, ← HLS.out]
      obtain ⟨t, ht⟩ := hpre
      refine Bool.eq_false_iff.2 fun hh => ?_
      have := List.all_eq_true.1 hh z (by rw [← ht, List.map_append]; exact List.mem_append.2 (.inl hz))
      rw [hzk] at this; cases this
    have HR := Lib.hid (HBAD.out hall)
    clear hall HBAD HOK
    have hc := hS.cell
    have hcE := hE.cell
    gi_wp2
    refine ⟨by simp, .inl ⟨_, _, rfl, run_takeDeferred hK, ?_⟩⟩
    have hput := grownBy_putObj' W D (.deferred none)
    have hS2 := hS.kept hput (fun e => by have := Option.some.inj e; omega)
    have hE2 := hE.kept hput (fun e => by have := Option.some.inj e; omega)
    refine ⟨_, resAdd _ N (.slice none 0 0) ⟨_, _, _, rfl⟩ 10 _ rfl rfl hS2.cell hE2.cell, none, 0, ?_, ?_, fun _ => rfl, ?_⟩
    · rw [HR.out.1, HR.out.2]; rfl
    · rw [HR.out.2]; exact SpAt.nil
    · rw [hN]; exact hB.trans (belowK_b (w := w) (by omega) W D _ _ (by omega) hK rfl rfl)
end Go.Proofs.Ytdennlekjndfkaa
