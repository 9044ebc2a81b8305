/- Size and Encode. -/
import Derived.Test.YtopkpdaingmmeaaVValue
import Derived.Laws.MakeOwn
import Derived.Deep.Light
namespace Go.Proofs.Ytopkpdaingmmeaa
open Go.RowKit

theorem pair_ret {a b c d : Value} (h1 : a = c) (h2 : b = d) : Ending.returned (.tuple #[a, b]) = .returned (.tuple #[c, d]) := by rw [h1, h2]

/-- What Size returns. -/
theorem size_any (v : V) (hv : rank v ≤ 1000000) (hlen : formed v = true → (enc v).length ≤ 1000000000000) (w : World) (B : Nat) (p : Option Addr) (cap : Nat) (h : VAt w B v p cap) :
    Calls Try.prog 14 #[vV v p cap] w fun e w' => e = .returned (.tuple #[.int .i64 (if errV v = 0 then (enc v).length else 0), .int .i64 (errV v)]) ∧ Below w.heap.size w w' := by
  have HB : Hid (∀ o, Below w.heap.size w (w.alloc o)) := Lib.hid fun o => (Below.refl w.heap.size w).alloc (Nat.le_refl _) o
  have HF : Hid (∀ o, Calls Try.prog 16 #[vV v p cap] (w.alloc o) fun e w' => e = .returned (.int .i64 (errV v)) ∧ Below (w.alloc o).heap.size (w.alloc o) w') := Lib.hid fun o =>
    check_any v hv (w.alloc o) B p cap (h.bel (HB.out o))
  have HD : Hid (∀ wr, formed v = true → Below w.heap.size w wr → Calls Try.prog 26 #[vV v p cap] wr fun e w' => e = .returned (.int .i64 (enc v).length) ∧ Below w.heap.size w w') := Lib.hid fun wr hf hb =>
    (size_rank _ v hv (hlen hf) wr B p cap (h.bel hb)).mono fun e w' h => ⟨h.1, hb.trans (h.2.mono hb.size)⟩
  have HE : Hid (errV v = 0 → formed v = true) := Lib.hid fun h => by
    unfold errV at h
    split at h
    · assumption
    · omega
  obtain ⟨k, n, s, l⟩ := v
  unfold vV at *
  change Calls Try.prog 14 #[.agg #[.int .i64 k, .int .i64 n, .string s, .slice p l.length cap]] w _
  change Hid (∀ o, Calls Try.prog 16 #[.agg #[.int .i64 k, .int .i64 n, .string s, .slice p l.length cap]] (w.alloc o) fun e w' => e = .returned (.int .i64 (errV (.mk k n s l))) ∧ Below (w.alloc o).heap.size (w.alloc o) w') at HF
  change Hid (∀ wr, formed (.mk k n s l) = true → Below w.heap.size w wr → Calls Try.prog 26 #[.agg #[.int .i64 k, .int .i64 n, .string s, .slice p l.length cap]] wr fun e w' => e = .returned (.int .i64 (enc (.mk k n s l)).length) ∧ Below w.heap.size w w') at HD
  clear h
  generalize enc (.mk k n s l) = en at *
  generalize formed (.mk k n s l) = f at *
  generalize errV (.mk k n s l) = er at *
  generalize l.length = len at *
  go_enter Try.func14, Try.ntmps14
  go_wp2_with fail
  go_at_call 16
  refine (HF.out _).mono ?_
  rintro e w' ⟨rfl, hb'⟩
  obtain ⟨b0, c0, c1, c2, c3⟩ := (Box.new w k n s (.slice p len cap)).bel hb' (by simp)
  have HB2 := Lib.hid ((HB.out _).trans (hb'.mono (HB.out _).size))
  clear hb' HF
  by_cases h0 : er = 0
  · subst h0
    have HD := Lib.hid (fun wr => HD.out wr (HE.out rfl))
    go_wp2_with fail
    go_at_call 26
    refine (HD.out _ HB2.out).mono ?_
    rintro e w2 ⟨rfl, hb2⟩
    have HB3 := Lib.hid hb2
    clear hb2 HD
    go_wp2_with fail
    go_ret2
    exact ⟨pair_ret rfl rfl, HB3.out⟩
  · go_wp2_with fail
    go_ret2
    exact ⟨pair_ret rfl rfl, HB2.out⟩

theorem Out.reads {w : World} {lo ob : Nat} {v : Value} {bs : List UInt8} (h : Out w lo ob v bs) (hl : bs.length ≤ 140737488351232) :
    ∃ q m c, v = .slice q m c ∧ BAt w lo q bs ∧ m = bs.length ∧ (q = none → c = 0) ∧ m ≤ c ∧ c ≤ 9223372036854775807 := by
  rcases h.own.2 with ⟨rfl, hn⟩ | ⟨g, cap, cur, rfl, hB, hg, hc, hm, hs, ht⟩
  · obtain rfl : bs = [] := List.length_eq_zero_iff.1 hn
    exact ⟨none, 0, 0, rfl, BAt.nil, rfl, fun _ => rfl, Nat.le_refl _, by decide⟩
  · refine ⟨_, _, cap, rfl, ⟨hl, fun _ => ⟨g, 0, rfl, hB, (Array.getElem?_eq_some_iff.1 hg).1, fun i hi => ?_⟩⟩, rfl, (fun h => by cases h), hc, by unfold maxLen at hm; omega⟩
    rw [cell_of_row w g _ cur _ (0, 0) hg, Nat.zero_add]
    have hfl : (bs.map bv)[i]? = some (.int .u8 bs[i].toNat) := by rw [List.getElem?_map, List.getElem?_eq_getElem hi]; rfl
    rw [← ht, List.getElem?_take] at hfl
    split at hfl
    · simpa using hfl
    · cases hfl

theorem five_sets {X : World} {ob : Nat} {cs : Array Value} (h : X.heap[ob]? = some (.cells cs 52 (0, 0))) (hc : cs.size = 5) (v0 v1 v2 v3 v4 : Value) :
    (((((X.setCell ⟨ob, 0, none⟩ v0).setCell ⟨ob, 1, none⟩ v1).setCell ⟨ob, 2, none⟩ v2).setCell ⟨ob, 3, none⟩ v3).setCell ⟨ob, 4, none⟩ v4).heap[ob]? = some (.cells #[v0, v1, v2, v3, v4] 52 (0, 0)) := by
  rw [heap_setCell_same _ _ _ _ _ _ (heap_setCell_same _ _ _ _ _ _ (heap_setCell_same _ _ _ _ _ _ (heap_setCell_same _ _ _ _ _ _ (heap_setCell_same _ _ _ _ _ _ h))))]
  obtain ⟨l⟩ := cs
  match l, hc with
  | [a, b, c, d, e], _ => rfl
/-- The world behind the output's making. -/
theorem enc_start {w w1 wc : World} {k n : Int} {s : ByteArray} {sl : Value} (hb : Below w.heap.size w w1) (hx : Box w1 w.heap.size k n s sl) (h : Below w1.heap.size w1 wc) {ob r c : Nat} (hob : w1.heap.size ≤ ob) (hr : w1.heap.size ≤ r) (hne : r ≠ ob)
    (ho : wc.heap[ob]? = some (.cells #[.slice (some ⟨r, 0, none⟩) 0 c, .nilFunc, .func (.func 41) #[] #[], .func (.func 42) #[] #[], .func (.func 43) #[] #[]] 52 (0, 0)))
    (hrow : wc.heap[r]? = some (.cells (madeCells #[.int .u8 0] c) 5 (0, 0))) (hc : c ≤ 1000000000000) :
    Below w.heap.size w wc ∧ (∃ ov, Out wc w.heap.size ob ov []) ∧ Box wc w.heap.size k n s sl := by
  have hsz := hb.size
  refine ⟨hb.trans (h.mono hsz), ⟨.slice (some ⟨r, 0, none⟩) 0 c, ?_⟩, hx.bel h hx.lt⟩
  have cc := fun j => cell_of_row wc ob j _ _ _ ho
  refine ⟨⟨by simp, .inr ⟨r, c, _, rfl, by omega, hrow, Nat.zero_le _, by unfold maxLen; omega, by rw [size_madeCells]; omega, by simp⟩⟩, by simp [Value.ownBlock]; exact hne, by omega, (Array.getElem?_eq_some_iff.1 ho).1, ?_, by simp [World.frozen?, ho], ?_, ?_, ?_, ⟨_, ho⟩⟩
  · rw [cc]; rfl
  · rw [cc]; rfl
  · rw [cc]; rfl
  · rw [cc]; rfl

abbrev rowO (n : Nat) : Obj := .cells (madeCells #[.int .u8 0] n) 5
abbrev emptyO : Obj := .cells #[.slice none 0 0, .nilFunc, .nilFunc, .nilFunc, .nilFunc] 52
abbrev fullO (r n : Nat) : Obj := .cells #[.slice (some ⟨r, 0, none⟩) 0 n, .nilFunc, .func (.func 41) #[] #[], .func (.func 42) #[] #[], .func (.func 43) #[] #[]] 52
abbrev fin5 (X : World) (ob r n : Nat) : World := ((((X.setCell ⟨ob, 0, none⟩ (.slice (some ⟨r, 0, none⟩) 0 n)).setCell ⟨ob, 1, none⟩ .nilFunc).setCell ⟨ob, 2, none⟩ (.func (.func 41) #[] #[])).setCell ⟨ob, 3, none⟩ (.func (.func 42) #[] #[])).setCell ⟨ob, 4, none⟩ (.func (.func 43) #[] #[])
theorem undrew {a b : World} (h : Below a.drew.heap.size a.drew b) : Below a.heap.size a b := ⟨h.os, h.tape, h.output, h.size, h.block⟩
theorem fin5_below {B : Nat} {a X : World} (h : Below B a X) {ob : Nat} (hob : B ≤ ob) (r n : Nat) : Below B a (fin5 X ob r n) :=
  ((((h.setCell (p := ⟨ob, 0, none⟩) hob _).setCell (p := ⟨ob, 1, none⟩) hob _).setCell (p := ⟨ob, 2, none⟩) hob _).setCell (p := ⟨ob, 3, none⟩) hob _).setCell (p := ⟨ob, 4, none⟩) hob _
theorem fin5_other (X : World) (ob r n k : Nat) (h : k ≠ ob) : (fin5 X ob r n).heap[k]? = X.heap[k]? := by
  rw [heap_setCell_other _ _ _ _ h, heap_setCell_other _ _ _ _ h, heap_setCell_other _ _ _ _ h, heap_setCell_other _ _ _ _ h, heap_setCell_other _ _ _ _ h]
theorem size_al (w : World) (o : Obj) : (w.alloc o).heap.size = w.heap.size + 1 := World.size_alloc w o
theorem enc1 {w w1 w2 w3 : World} {k n : Int} {s : ByteArray} {sl : Value} {c : Nat} (hb : Below w.heap.size w w1) (hx : Box w1 w.heap.size k n s sl) (hc : c ≤ 1000000000000) (g2 : Below w1.heap.size w1 w2) (g3 : Below (w2.alloc (rowO c)).heap.size (w2.alloc (rowO c)) w3) : Below w.heap.size w (w3.alloc (fullO w2.heap.size c)) ∧ (∃ ov, Out (w3.alloc (fullO w2.heap.size c)) w.heap.size w3.heap.size ov []) ∧ Box (w3.alloc (fullO w2.heap.size c)) w.heap.size k n s sl := by
  have s2 := g2.size
  have s3 := g3.size
  rw [size_al] at s3
  have hB : Below w1.heap.size w1 w3 := (g2.alloc s2 (rowO c)).trans (g3.mono (by rw [size_al]; omega))
  refine enc_start (r := w2.heap.size) hb hx (hB.alloc hB.size _) hB.size s2 (by omega) (heap_alloc_new _ _) ?_ hc
  rw [Below.heap_alloc _ _ _ (by omega), g3.block _ (by rw [size_al]; omega)]
  exact heap_alloc_new _ _
theorem enc2 {w w1 w2 w3 : World} {k n : Int} {s : ByteArray} {sl : Value} {c : Nat} (hb : Below w.heap.size w w1) (hx : Box w1 w.heap.size k n s sl) (hc : c ≤ 1000000000000) (g2 : Below w1.heap.size w1 w2) (g3 : Below ((w2.alloc (rowO c)).alloc emptyO).heap.size ((w2.alloc (rowO c)).alloc emptyO) w3) : Below w.heap.size w (fin5 w3 (w2.heap.size + 1) w2.heap.size c) ∧ (∃ ov, Out (fin5 w3 (w2.heap.size + 1) w2.heap.size c) w.heap.size (w2.heap.size + 1) ov []) ∧ Box (fin5 w3 (w2.heap.size + 1) w2.heap.size c) w.heap.size k n s sl := by
  have s2 := g2.size
  have s3 := g3.size
  rw [size_al, size_al] at s3
  have hB : Below w1.heap.size w1 w3 := ((g2.alloc s2 (rowO c)).alloc (by rw [size_al]; omega) emptyO).trans (g3.mono (by rw [size_al, size_al]; omega))
  refine enc_start (r := w2.heap.size) hb hx (fin5_below hB (by omega) _ _) (by omega) s2 (by omega) (five_sets (cs := #[.slice none 0 0, .nilFunc, .nilFunc, .nilFunc, .nilFunc]) ?_ rfl _ _ _ _ _) ?_ hc
  · rw [g3.block _ (by rw [size_al, size_al]; omega), ← size_al w2 (rowO c)]
    exact heap_alloc_new _ _
  · rw [fin5_other _ _ _ _ _ (by omega), g3.block _ (by rw [size_al, size_al]; omega), Below.heap_alloc _ _ _ (by rw [size_al]; omega)]
    exact heap_alloc_new _ _
theorem enc3 {w w1 w2 w3 : World} {k n : Int} {s : ByteArray} {sl : Value} {c : Nat} (hb : Below w.heap.size w w1) (hx : Box w1 w.heap.size k n s sl) (hc : c ≤ 1000000000000) (g2 : Below w1.heap.size w1 w2) (g3 : Below w2.heap.size w2 w3) : Below w.heap.size w ((w3.alloc (rowO c)).alloc (fullO w3.heap.size c)) ∧ (∃ ov, Out ((w3.alloc (rowO c)).alloc (fullO w3.heap.size c)) w.heap.size (w3.heap.size + 1) ov []) ∧ Box ((w3.alloc (rowO c)).alloc (fullO w3.heap.size c)) w.heap.size k n s sl := by
  have s2 := g2.size
  have s3 := g3.size
  have hB : Below w1.heap.size w1 w3 := g2.trans (g3.mono s2)
  refine enc_start (r := w3.heap.size) hb hx ((hB.alloc hB.size _).alloc (by rw [size_al]; omega) _) (by omega) (by omega) (by omega) ?_ ?_ hc
  · rw [← size_al w3 (rowO c)]
    exact heap_alloc_new _ _
  · rw [Below.heap_alloc _ _ _ (by rw [size_al]; omega)]
    exact heap_alloc_new _ _
theorem enc4 {w w1 w2 w3 : World} {k n : Int} {s : ByteArray} {sl : Value} {c : Nat} (hb : Below w.heap.size w w1) (hx : Box w1 w.heap.size k n s sl) (hc : c ≤ 1000000000000) (g2 : Below w1.heap.size w1 w2) (g3 : Below w2.heap.size w2 w3) : Below w.heap.size w ((w3.alloc (fullO (w3.heap.size + 1) c)).alloc (rowO c)) ∧ (∃ ov, Out ((w3.alloc (fullO (w3.heap.size + 1) c)).alloc (rowO c)) w.heap.size w3.heap.size ov []) ∧ Box ((w3.alloc (fullO (w3.heap.size + 1) c)).alloc (rowO c)) w.heap.size k n s sl := by
  have s2 := g2.size
  have s3 := g3.size
  have hB : Below w1.heap.size w1 w3 := g2.trans (g3.mono s2)
  refine enc_start (r := w3.heap.size + 1) hb hx ((hB.alloc hB.size _).alloc (by rw [size_al]; omega) _) (by omega) (by omega) (by omega) ?_ ?_ hc
  · rw [Below.heap_alloc _ _ _ (by rw [size_al]; omega)]
    exact heap_alloc_new _ _
  · have := heap_alloc_new (w3.alloc (fullO (w3.heap.size + 1) c)) (rowO c)
    rwa [size_al] at this
theorem enc5 {w w1 w2 w3 : World} {k n : Int} {s : ByteArray} {sl : Value} {c : Nat} (hb : Below w.heap.size w w1) (hx : Box w1 w.heap.size k n s sl) (hc : c ≤ 1000000000000) (g2 : Below w1.heap.size w1 w2) (g3 : Below ((w2.alloc emptyO).alloc (rowO c)).heap.size ((w2.alloc emptyO).alloc (rowO c)) w3) : Below w.heap.size w (fin5 w3 w2.heap.size (w2.heap.size + 1) c) ∧ (∃ ov, Out (fin5 w3 w2.heap.size (w2.heap.size + 1) c) w.heap.size w2.heap.size ov []) ∧ Box (fin5 w3 w2.heap.size (w2.heap.size + 1) c) w.heap.size k n s sl := by
  have s2 := g2.size
  have s3 := g3.size
  rw [size_al, size_al] at s3
  have hB : Below w1.heap.size w1 w3 := ((g2.alloc s2 emptyO).alloc (by rw [size_al]; omega) (rowO c)).trans (g3.mono (by rw [size_al, size_al]; omega))
  refine enc_start (r := w2.heap.size + 1) hb hx (fin5_below hB (by omega) _ _) (by omega) (by omega) (by omega) (five_sets (cs := #[.slice none 0 0, .nilFunc, .nilFunc, .nilFunc, .nilFunc]) ?_ rfl _ _ _ _ _) ?_ hc
  · rw [g3.block _ (by rw [size_al, size_al]; omega), Below.heap_alloc _ _ _ (by rw [size_al]; omega)]
    exact heap_alloc_new _ _
  · rw [fin5_other _ _ _ _ _ (by omega), g3.block _ (by rw [size_al, size_al]; omega), ← size_al w2 emptyO]
    exact heap_alloc_new _ _
theorem enc6 {w w1 w2 w3 : World} {k n : Int} {s : ByteArray} {sl : Value} {c : Nat} (hb : Below w.heap.size w w1) (hx : Box w1 w.heap.size k n s sl) (hc : c ≤ 1000000000000) (g2 : Below w1.heap.size w1 w2) (g3 : Below (w2.alloc emptyO).heap.size (w2.alloc emptyO) w3) : Below w.heap.size w ((fin5 w3 w2.heap.size w3.heap.size c).alloc (rowO c)) ∧ (∃ ov, Out ((fin5 w3 w2.heap.size w3.heap.size c).alloc (rowO c)) w.heap.size w2.heap.size ov []) ∧ Box ((fin5 w3 w2.heap.size w3.heap.size c).alloc (rowO c)) w.heap.size k n s sl := by
  have s2 := g2.size
  have s3 := g3.size
  rw [size_al] at s3
  have hB : Below w1.heap.size w1 w3 := (g2.alloc s2 emptyO).trans (g3.mono (by rw [size_al]; omega))
  have hz : (fin5 w3 w2.heap.size w3.heap.size c).heap.size = w3.heap.size := by simp
  refine enc_start (r := w3.heap.size) hb hx ((fin5_below hB (by omega) _ _).alloc (by rw [hz]; omega) _) (by omega) (by omega) (by omega) ?_ ?_ hc
  · rw [Below.heap_alloc _ _ _ (by rw [hz]; omega)]
    refine five_sets (cs := #[.slice none 0 0, .nilFunc, .nilFunc, .nilFunc, .nilFunc]) ?_ rfl _ _ _ _ _
    rw [g3.block _ (by rw [size_al]; omega)]
    exact heap_alloc_new _ _
  · have := heap_alloc_new (fin5 w3 w2.heap.size w3.heap.size c) (rowO c)
    rwa [hz] at this
theorem enc7 {w w1 w2 w3 : World} {k n : Int} {s : ByteArray} {sl : Value} {c : Nat} (hb : Below w.heap.size w w1) (hx : Box w1 w.heap.size k n s sl) (hc : c ≤ 1000000000000) (g2 : Below (w1.alloc emptyO).heap.size (w1.alloc emptyO) w2) (g3 : Below (w2.alloc (rowO c)).heap.size (w2.alloc (rowO c)) w3) : Below w.heap.size w (fin5 w3 w1.heap.size w2.heap.size c) ∧ (∃ ov, Out (fin5 w3 w1.heap.size w2.heap.size c) w.heap.size w1.heap.size ov []) ∧ Box (fin5 w3 w1.heap.size w2.heap.size c) w.heap.size k n s sl := by
  have s2 := g2.size
  have s3 := g3.size
  rw [size_al] at s2 s3
  have hB2 : Below w1.heap.size w1 w2 := ((Below.refl _ w1).alloc (Nat.le_refl _) emptyO).trans (g2.mono (by rw [size_al]; omega))
  have hB : Below w1.heap.size w1 w3 := (hB2.alloc hB2.size (rowO c)).trans (g3.mono (by rw [size_al]; omega))
  refine enc_start (r := w2.heap.size) hb hx (fin5_below hB (by omega) _ _) (by omega) (by omega) (by omega) (five_sets (cs := #[.slice none 0 0, .nilFunc, .nilFunc, .nilFunc, .nilFunc]) ?_ rfl _ _ _ _ _) ?_ hc
  · rw [g3.block _ (by rw [size_al]; omega), Below.heap_alloc _ _ _ (by omega), g2.block _ (by rw [size_al]; omega)]
    exact heap_alloc_new _ _
  · rw [fin5_other _ _ _ _ _ (by omega), g3.block _ (by rw [size_al]; omega)]
    exact heap_alloc_new _ _
theorem enc8 {w w1 w2 w3 : World} {k n : Int} {s : ByteArray} {sl : Value} {c : Nat} (hb : Below w.heap.size w w1) (hx : Box w1 w.heap.size k n s sl) (hc : c ≤ 1000000000000) (g2 : Below (w1.alloc emptyO).heap.size (w1.alloc emptyO) w2) (g3 : Below w2.heap.size w2 w3) : Below w.heap.size w ((fin5 w3 w1.heap.size w3.heap.size c).alloc (rowO c)) ∧ (∃ ov, Out ((fin5 w3 w1.heap.size w3.heap.size c).alloc (rowO c)) w.heap.size w1.heap.size ov []) ∧ Box ((fin5 w3 w1.heap.size w3.heap.size c).alloc (rowO c)) w.heap.size k n s sl := by
  have s2 := g2.size
  have s3 := g3.size
  rw [size_al] at s2
  have hB2 : Below w1.heap.size w1 w2 := ((Below.refl _ w1).alloc (Nat.le_refl _) emptyO).trans (g2.mono (by rw [size_al]; omega))
  have hB : Below w1.heap.size w1 w3 := hB2.trans (g3.mono (by omega))
  have hz : (fin5 w3 w1.heap.size w3.heap.size c).heap.size = w3.heap.size := by simp
  refine enc_start (r := w3.heap.size) hb hx ((fin5_below hB (by omega) _ _).alloc (by rw [hz]; omega) _) (by omega) (by omega) (by omega) ?_ ?_ hc
  · rw [Below.heap_alloc _ _ _ (by rw [hz]; omega)]
    refine five_sets (cs := #[.slice none 0 0, .nilFunc, .nilFunc, .nilFunc, .nilFunc]) ?_ rfl _ _ _ _ _
    rw [g3.block _ (by omega), g2.block _ (by rw [size_al]; omega)]
    exact heap_alloc_new _ _
  · have := heap_alloc_new (fin5 w3 w1.heap.size w3.heap.size c) (rowO c)
    rwa [hz] at this
set_option maxHeartbeats 8000000 in
theorem encode_any (v : V) (hv : rank v ≤ 1000000) (hlen : formed v = true → (enc v).length ≤ 1000000000000) (w : World) (B : Nat) (p : Option Addr) (cap : Nat) (h : VAt w B v p cap) :
    Calls Try.prog 12 #[vV v p cap] w fun e w' => Below w.heap.size w w' ∧ ∃ q m c, e = .returned (.tuple #[.slice q m c, .int .i64 (errV v)]) ∧ BAt w' w.heap.size q (if errV v = 0 then enc v else []) ∧ m = (if errV v = 0 then enc v else []).length ∧ (q = none → c = 0) ∧ m ≤ c ∧ c ≤ 9223372036854775807 := by
  have HB : Hid (∀ o, Below w.heap.size w (w.alloc o)) := Lib.hid fun o => (Below.refl w.heap.size w).alloc (Nat.le_refl _) o
  have HF : Hid (∀ o, Calls Try.prog 16 #[vV v p cap] (w.alloc o) fun e w' => e = .returned (.int .i64 (errV v)) ∧ Below (w.alloc o).heap.size (w.alloc o) w') := Lib.hid fun o =>
    check_any v hv (w.alloc o) B p cap (h.bel (HB.out o))
  have HD : Hid (∀ wr, formed v = true → Below w.heap.size w wr → Calls Try.prog 26 #[vV v p cap] wr fun e w' => e = .returned (.int .i64 (enc v).length) ∧ Below wr.heap.size wr w') := Lib.hid fun wr hf hb =>
    size_rank _ v hv (hlen hf) wr B p cap (h.bel hb)
  have HV : Hid (∀ wr ob ov, formed v = true → Below w.heap.size w wr → Out wr w.heap.size ob ov [] → Calls Try.prog 28 #[.pointer (some ⟨ob, 0, none⟩), vV v p cap] wr fun e w' => e = .returned (.tuple #[]) ∧ Below w.heap.size wr w' ∧ ∃ v', Out w' w.heap.size ob v' (enc v)) := Lib.hid fun wr ob ov hf hb ho =>
    value_rank _ v hv hf w B p cap h wr w.heap.size ob ov [] (Nat.le_refl _) hb ho (by have := hlen hf; simpa using this)
  have HE : Hid (errV v = 0 → formed v = true) := Lib.hid fun h => by
    unfold errV at h
    split at h
    · assumption
    · omega
  have HLEN := Lib.hid hlen; clear hlen
  obtain ⟨k, n, s, l⟩ := v
  unfold vV at *
  change Calls Try.prog 12 #[.agg #[.int .i64 k, .int .i64 n, .string s, .slice p l.length cap]] w _
  change Hid (∀ o, Calls Try.prog 16 #[.agg #[.int .i64 k, .int .i64 n, .string s, .slice p l.length cap]] (w.alloc o) fun e w' => e = .returned (.int .i64 (errV (.mk k n s l))) ∧ Below (w.alloc o).heap.size (w.alloc o) w') at HF
  change Hid (∀ wr, formed (.mk k n s l) = true → Below w.heap.size w wr → Calls Try.prog 26 #[.agg #[.int .i64 k, .int .i64 n, .string s, .slice p l.length cap]] wr fun e w' => e = .returned (.int .i64 (enc (.mk k n s l)).length) ∧ Below wr.heap.size wr w') at HD
  change Hid (∀ wr ob ov, formed (.mk k n s l) = true → Below w.heap.size w wr → Out wr w.heap.size ob ov [] → Calls Try.prog 28 #[.pointer (some ⟨ob, 0, none⟩), .agg #[.int .i64 k, .int .i64 n, .string s, .slice p l.length cap]] wr fun e w' => e = .returned (.tuple #[]) ∧ Below w.heap.size wr w' ∧ ∃ v', Out w' w.heap.size ob v' (enc (.mk k n s l))) at HV
  clear h
  generalize enc (.mk k n s l) = en at *
  generalize formed (.mk k n s l) = f at *
  generalize errV (.mk k n s l) = er at *
  generalize l.length = len at *
  go_enter Try.func12, Try.ntmps12
  go_wp2_with fail
  go_at_call 16
  refine (HF.out _).mono ?_
  rintro e w1 ⟨rfl, hb'⟩
  have HBX := Lib.hid ((Box.new w k n s (.slice p len cap)).bel hb' (by simp))
  obtain ⟨b0, c0, c1, c2, c3⟩ := HBX.out
  have HB2 := Lib.hid ((HB.out _).trans (hb'.mono (HB.out _).size))
  clear hb' HF
  by_cases h0 : er = 0
  · subst h0
    have hf := HE.out rfl
    subst hf
    have HR : Hid ((if (0 : Int) = 0 then en else []) = en) := Lib.hid (if_pos rfl)
    have HL2 := Lib.hid (HLEN.out rfl)
    have HD2 := Lib.hid (fun wr => HD.out wr rfl)
    have HV2 := Lib.hid (fun wr ob ov => HV.out wr ob ov rfl)
    clear HD HV
    clear HLEN HE
    obtain ⟨i0, hi, hz0, hz1, hz2⟩ := info_parts Try.infoU8
    have hmk : ∀ wx : World, (Instr.makeSlice 27 (.int .i64 0) (.int .i64 en.length)).run Try.prog wx = .ok (.slice (some ⟨wx.heap.size, 0, none⟩) 0 en.length) (wx.alloc (.cells (madeCells (Value.int .u8 0).cells en.length) 5)) := fun wx => by
      have := run_make (P := Try.prog) wx 27 5 i0 _ Try.underlying27 hi hz0 .i64 .i64 0 en.length (Int.le_refl _) (by omega) (by rw [hz2]; have := HL2.out; omega) (by have := HL2.out; omega)
      simpa [hz1] using this
    go_wp2_with fail
    go_cut [5] from 11 to 15 (fun x wc => ∃ ob, x = .pointer (some ⟨ob, 0, none⟩) ∧ Hid (Below w.heap.size w wc ∧ (∃ ov, Out wc w.heap.size ob ov []) ∧ Box wc w.heap.size k n s (.slice p len cap)))
    case first =>
      go_region_law (first
        | (go_simp; go_at_call 26; refine (HD2.out _ (by first | exact HB2.out | exact HB2.out.drew | exact below_drewN HB2.out _ | exact (HB2.out.alloc HB2.out.size _).drew | exact HB2.out.trans (Below.mono g3 (by simp; exact HB2.out.size)))).mono ?_; rintro e w' ⟨rfl, g2⟩; have k2 := fun b o (h : b < _) => g2.cell (p := ⟨b, o, none⟩) h; have j2 := fun b o (h : b < _) => g2.frozen (p := ⟨b, o, none⟩) h; have z2 := fun (x : Nat) (hx : x < _) => Nat.lt_of_lt_of_le hx g2.size; have y2 := fun (x : Nat) (hx : x < _) => Nat.lt_succ_of_lt (z2 x hx); have x2 := fun (x : Nat) (hx : x < _) => Nat.lt_succ_of_lt (y2 x hx); have v2 := fun (x : Nat) (hx : x < _) => Nat.le_of_lt (z2 x hx); (try (have q2 : w1.heap.size < w'.heap.size := by have h1 := g2.size; have h2 := g3.size; simp at h1 h2; omega)); (try (have q2 : w1.heap.size < w'.heap.size := by have h1 := g2.size; simp at h1; omega)))
        | (go_simp; go_at_call 27; refine (writers_any _).mono ?_; rintro e w3 ⟨rfl, g3⟩; have k3 := fun b o (h : b < _) => g3.cell (p := ⟨b, o, none⟩) h; have j3 := fun b o (h : b < _) => g3.frozen (p := ⟨b, o, none⟩) h; have z3 := fun (x : Nat) (hx : x < _) => Nat.lt_of_lt_of_le hx g3.size; have y3 := fun (x : Nat) (hx : x < _) => Nat.lt_succ_of_lt (z3 x hx); have x3 := fun (x : Nat) (hx : x < _) => Nat.lt_succ_of_lt (y3 x hx); have v3 := fun (x : Nat) (hx : x < _) => Nat.le_of_lt (z3 x hx); (try (have q3 : w1.heap.size < w3.heap.size := by have h1 := g2.size; have h2 := g3.size; simp at h1 h2; omega)); (try (have q3 : w1.heap.size < w3.heap.size := by have h1 := g3.size; simp at h1; omega))))
      all_goals
        go_wp2_with fail
        go_meet
        refine ⟨_, rfl, Lib.hid ?_⟩
        go_light
        clear k2 j2 z2 y2 x2 v2 k3 j3 z3 y3 x3 v3 HD2 HV2 hmk HR c0 c1 c2 c3 hv
        with_reducible first
          | exact enc1 HB2.out HBX.out HL2.out (undrew g2) g3
          | exact enc2 HB2.out HBX.out HL2.out (undrew g2) g3
          | exact enc3 HB2.out HBX.out HL2.out (undrew g2) g3
          | exact enc4 HB2.out HBX.out HL2.out (undrew g2) g3
          | exact enc5 HB2.out HBX.out HL2.out (undrew g2) g3
          | exact enc6 HB2.out HBX.out HL2.out (undrew g2) g3
          | exact enc7 HB2.out HBX.out HL2.out (undrew g2) g3
          | exact enc8 HB2.out HBX.out HL2.out (undrew g2) g3
          | skip
    case rest =>
      obtain ⟨ob, rfl, hcut⟩ := hcut
      obtain ⟨hb1, ⟨ov, ho⟩, b5, d0, d1, d2, d3⟩ := hcut.out
      have HB4 := Lib.hid hb1
      have HC := Lib.hid (HV2.out wc ob ov hb1 ho)
      clear hcut HV2 HD2 hmk hb1 ho
      go_wp2_with fail
      go_at_call 28
      refine HC.out.mono ?_
      rintro e w5 ⟨rfl, hb5, v5, ho5⟩
      have HB5 := Lib.hid (HB4.out.trans hb5)
      obtain ⟨q, m, c, rfl, hq⟩ := ho5.reads (by have := HL2.out; omega)
      have HQ := Lib.hid hq
      have k0 := ho5.c0
      clear hb5 ho5 hq HC
      go_wp2_with fail
      go_ret2
      exact ⟨HB5.out, q, m, c, pair_ret rfl rfl, HQ.out⟩
  · have HR : Hid ((if er = 0 then en else []) = []) := Lib.hid (if_neg h0)
    go_wp2_with fail
    go_ret2
    exact ⟨HB2.out, none, 0, 0, pair_ret rfl rfl, BAt.nil, rfl, fun _ => rfl, Nat.le_refl _, by decide⟩
end Go.Proofs.Ytopkpdaingmmeaa
