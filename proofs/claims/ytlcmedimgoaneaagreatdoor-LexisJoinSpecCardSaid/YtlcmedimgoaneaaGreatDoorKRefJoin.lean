/- The specification's Join. -/
import Derived.Test.YtlcmedimgoaneaaGreatDoorKJoin
import Derived.Test.YtlcmedimgoaneaaGreatDoorKRefJ
import Derived.Test.YtlcmedimgoaneaaGreatDoorKRefK
import Derived.Test.YtlcmedimgoaneaaGreatDoorKRef4
import Derived.Test.YtlcmedimgoaneaaGreatDoorKRem
namespace Go.Proofs.YtlcmedimgoaneaaGreatDoor
open Go.RowKit

theorem wdLen_iff : ∀ l : Bs, (wdLen l == l.length) = l.all isW
  | [] => rfl
  | c :: l => by
    have ih := wdLen_iff l
    rw [wdLen, List.all_cons, List.length_cons]
    by_cases h : isW c = true
    · rw [if_pos h, h, Bool.true_and, ← ih]
      by_cases h2 : wdLen l = l.length
      · simp [h2]
      · simp
    · rw [if_neg h]
      simp [h]
theorem word_eq (l : Bs) : (l.all isW && isL (l.headD 0)) = word l := by
  unfold word
  cases l with
  | nil => decide
  | cons c l =>
    have h := wdLen_iff l
    rw [List.tail_cons, List.headD_cons, List.length_cons]
    have e : (wdLen l + 1 == l.length + 1) = (wdLen l == l.length) := by
      by_cases h2 : wdLen l = l.length
      · simp [h2]
      · simp
    rw [e, h, List.all_cons]
    cases hL : isL c with
    | false => simp
    | true =>
      have : isW c = true := by unfold isW; rw [hL]; rfl
      simp [this]
theorem signs_eq (l : Bs) : signs.contains l = signB l := by
  cases h : signB l with
  | true => exact List.contains_iff_mem.2 (signB_mem h)
  | false =>
    cases h2 : signs.contains l with
    | false => rfl
    | true =>
      have := (sign_all l (List.contains_iff_mem.1 h2)).1
      rw [h] at this; cases this
theorem timeE_eq (l : Bs) : ((timeV l).isSome = true ∧ timeE l = 0) ∨ ((timeV l).isSome = false ∧ timeE l = 50) := by
  unfold timeE
  cases h : (timeV l).isSome with
  | true => exact Or.inl ⟨rfl, rfl⟩
  | false => exact Or.inr ⟨rfl, rfl⟩
theorem cells3 {w w2 : World} {B b off : Nat} {L : List Tok} (h : TAt w B (some ⟨b, off, none⟩) L) (hb : Below w.heap.size w w2) (j : Nat) (hj : j < L.length) :
    w2.cell? ⟨b, off + j * 3, none⟩ = some (.int .i64 L[j].k) ∧ w2.cell? ⟨b, off + j * 3 + 1, none⟩ = some (.string (S L[j].t)) := by
  obtain ⟨b', o', e, _, _, hc⟩ := (h.bel hb (Nat.le_refl _)).at' (by intro h; rw [h] at hj; simp at hj)
  cases e
  exact ⟨(hc j hj).1, (hc j hj).2.1⟩
theorem jt_next {l : List Tok} {j : Nat} (h : j < l.length) (h0 : 0 < j) : jt (l.take (j + 1)) = jt (l.take j) ++ [32] ++ txB l[j] := by
  rw [jt_take h, if_neg (by omega)]; simp
theorem jt_first {l : List Tok} (h : 0 < l.length) : jt (l.take 1) = txB l[0] := by
  rw [jt_take h, if_pos rfl]
theorem Row.empty (w : World) : Row (w.alloc (.cells #[] 5)) w.heap.size (.slice (some ⟨w.heap.size, 0, none⟩) 0 0) [] :=
  ⟨rfl, .inr ⟨w.heap.size, 0, #[], rfl, Nat.le_refl _, heap_alloc_new w _, Nat.le_refl _, by decide, rfl, rfl⟩⟩
set_option maxRecDepth 100000 in
theorem refJoin0_any (p : Option Addr) (cap : Nat) (w : World) : Calls Tryz.prog 18 #[.slice p 0 cap] w fun e w' => e = .returned (.tuple #[.slice none 0 0, .int .i64 1]) ∧ Below w.heap.size w w' := by
  go_enter Tryz.func18, Tryz.ntmps18
  go_wp2_with fail
  go_ret2
  exact ⟨rfl, Below.refl _ _⟩
set_option maxHeartbeats 8000000 in
set_option maxRecDepth 100000 in
theorem refJoin_any (l : List Tok) (z : Tok) (hll : l.length ≤ 100000) (ht : ∀ x ∈ l ++ [z], x.t.length ≤ 100000) (w : World) (B : Nat) (p : Option Addr) (cap : Nat) (hT : TAt w B p (l ++ [z])) :
    Calls Tryz.prog 18 #[.slice p (l.length + 1 : Nat) cap] w fun e w' => Below w.heap.size w w' ∧ ∃ v, e = .returned (.tuple #[v, .int .i64 (jE l z)]) ∧ Row w' w.heap.size v (jB l z) := by
  have HT := Lib.hid hT
  obtain ⟨b, off, rfl, -, -, -⟩ := hT.at' (by simp)
  clear hT
  have HE1 : Hid (¬ (z.k = 6 ∧ z.t = []) → jE l z = 1 ∧ jB l z = []) := Lib.hid (fun h => by
    have : jE l z = 1 := by unfold jE; rw [if_neg h]
    exact ⟨this, by unfold jB; rw [this]; rfl⟩)
  have HEF : Hid (okI l = false → jE l z = 1 ∧ jB l z = []) := Lib.hid (fun h => by
    have : jE l z = 1 := by unfold jE; rw [h]; simp
    exact ⟨this, by unfold jB; rw [this]; rfl⟩)
  have HEL : Hid (z.k = 6 → z.t = [] → okI l = true → 65536 < (jt l).length → jE l z = 2 ∧ jB l z = []) := Lib.hid (fun h1 h2 h3 h4 => by
    have : jE l z = 2 := by unfold jE; rw [if_pos ⟨h1, h2⟩, if_pos h3, if_pos h4]
    exact ⟨this, by unfold jB; rw [this]; rfl⟩)
  have HEO : Hid (z.k = 6 → z.t = [] → okI l = true → ¬ 65536 < (jt l).length → jE l z = 0 ∧ jB l z = jt l) := Lib.hid (fun h1 h2 h3 h4 => by
    have : jE l z = 0 := by unfold jE; rw [if_pos ⟨h1, h2⟩, if_pos h3, if_neg h4]
    exact ⟨this, by unfold jB; rw [this]; rfl⟩)
  generalize jE l z = je at *
  generalize jB l z = jb at *
  have HJL := Lib.hid (jt_le l hll (fun x hx => ht x (by simp [hx])))
  obtain ⟨n, hn⟩ : ∃ n, l.length = n := ⟨_, rfl⟩
  rw [hn] at hll ⊢
  have hn10 : (((n : Int) + 1) == 0) = false := beq_eq_false_iff_ne.2 (by omega)
  go_enter Tryz.func18, Tryz.ntmps18
  go_wp2_with fail
  go_loopw [4, 5] (fun v i wr => ∃ j : Nat, j ≤ n + 1 ∧ i = .int .i64 j ∧ Hid (okI (l.take j) = true) ∧ Hid (j = n + 1 → z.k = 6 ∧ z.t = []) ∧ Hid (Row wr w.heap.size v (jt (l.take j))) ∧ Hid (Below w.heap.size w wr)) (fun _ i _ => n + 1 - (intOf i).toNat)
  case atStart => exact ⟨0, Nat.zero_le _, rfl, Lib.hid rfl, Lib.hid (fun h => by omega), Lib.hid (Row.empty w), Lib.hid ((Below.refl _ _).alloc (Nat.le_refl _) _)⟩
  case round =>
    obtain ⟨j, hj, rfl, HO, HZ, HR, HB⟩ := hrel
    by_cases hlt : j < n
    · have hji : (j : Int) < (n : Int) + 1 := by omega
      have hjn : ((j : Int) == (n : Int)) = false := beq_eq_false_iff_ne.2 (by omega)
      have hll2 : j < l.length := by omega
      have HC3 := Lib.hid (fun w2 (hb : Below w.heap.size w w2) => cells3 HT.out hb j (by rw [List.length_append, List.length_singleton]; omega))
      rw [List.getElem_append_left hll2] at HC3
      have htl := ht (l[j]'hll2) (by simp)
      have HI := Lib.hid (okI_take hll2)
      have HIF := Lib.hid (okI_false (l := l) hll2)
      have HN := Lib.hid (jt_next hll2)
      have HF := Lib.hid (fun (h : j = 0) => show jt (l.take (j + 1)) = txB (l[j]'hll2) from by subst h; exact jt_first hll2)
      have htb := txB_len (l[j]'hll2)
      have HJL2 : (jt (l.take j)).length ≤ 20000300000 := jt_le _ (by rw [List.length_take]; omega) (fun x hx => ht x (by simp [List.mem_of_mem_take hx]))
      have HTX : Hid (txB (l[j]'hll2) = (txT (l[j]'hll2).k (l[j]'hll2).t).data.toList) := Lib.hid rfl
      have htx : (txT (l[j]'hll2).k (l[j]'hll2).t).size = (txB (l[j]'hll2)).length := txB_size _
      have HJ0 : Hid (j = 0 → jt (l.take j) = []) := Lib.hid (fun h => by rw [h]; rfl)
      generalize txB (l[j]'hll2) = tb at *
      generalize l[j]'hll2 = x at *
      clear ht
      by_cases hk : x.k = 1
      · obtain ⟨y0, y1⟩ := HC3.out _ HB.out
        rw [hk] at y0
        have HC : Hid (∀ w1, Calls Tryz.prog 32 #[.string (S x.t)] w1 fun e w' => e = .returned (.bool (word x.t)) ∧ Below w1.heap.size w1 w') := Lib.hid fun w1 => (by have := wordR_any x.t (by omega) w1; rw [word_eq] at this; exact this.mono (by rintro e w2 ⟨rfl, rfl⟩; exact ⟨rfl, Below.refl _ _⟩))
        have HK : Hid (okT x.k x.t = word x.t) := Lib.hid (by rw [hk]; rfl)
        cases hf : word x.t with
        | true =>
          rw [hf] at HC
          have HO2 : Hid (okI (l.take (j + 1)) = true) := Lib.hid (by rw [HI.out, HO.out, HK.out, hf]; rfl)
          have HTX2 : Hid (tb = (S x.t).data.toList) := Lib.hid (by rw [HTX.out, hk]; unfold txT; rw [if_neg (by decide), if_pos (by simp)])
          have hts : (S x.t).size = tb.length := by rw [HTX2.out]; exact (Array.length_toList).symm
          have hn1 : (jt (l.take j)).length + (S x.t).size ≤ 10000000000000 := by rw [hts]; omega
          have hn0 : (jt (l.take j)).length + [(32 : UInt8)].length ≤ 10000000000000 := by rw [List.length_singleton]; omega
          have hn2 : (jt (l.take j) ++ [32]).length + (S x.t).size ≤ 10000000000000 := by rw [hts, List.length_append, List.length_singleton]; omega
          go_wp2_with fail
          go_at_call 32
          refine (HC.out _).mono ?_
          rintro e w2 ⟨rfl, hb'⟩
          have HB2 := Lib.hid (HB.out.trans (hb'.mono HB.out.size))
          have HR2 := Lib.hid (HR.out.bel hb' (Nat.le_refl _)); clear hb'
          obtain ⟨y0, y1⟩ := HC3.out _ HB2.out
          rw [hk] at y0
          by_cases h0 : j = 0
          · have h0i : ¬ (0 : Int) < (j : Int) := by omega
            have HJ1 : Hid (jt (l.take (j + 1)) = tb) := Lib.hid (HF.out h0)
            have HJz : Hid (jt (l.take j) = []) := Lib.hid (HJ0.out h0)
            clear h0
            go_wp2_with (refine wpList_appText rfl _ _ rfl w.heap.size _ _ HR2.out rfl (S x.t) rfl hn1 HB2.out.size ?_; intro v3 w3 hr3 hb3 hsz3)
            have HR3 : Hid (Row w3 w.heap.size v3 (jt (l.take (j + 1)))) := Lib.hid (by rw [HJ1.out, HTX2.out]; rw [HJz.out, List.nil_append] at hr3; exact hr3)
            have HB3 := Lib.hid (HB2.out.trans hb3)
            go_round
            case rel => exact ⟨j + 1, by omega, by go_num, HO2, Lib.hid (fun h => by omega), HR3, HB3⟩
            case measure => simp [intOf]; omega
          · have h0i : (0 : Int) < (j : Int) := by omega
            have HJ1 : Hid (jt (l.take (j + 1)) = jt (l.take j) ++ [32] ++ tb) := Lib.hid (HN.out (by omega))
            have HRA : Hid (∀ o, Row (w2.alloc o) w.heap.size _ (jt (l.take j))) := Lib.hid fun o => HR2.out.bel ((Below.refl w2.heap.size w2).alloc (Nat.le_refl _) o) (Nat.le_refl _)
            have H1 := Lib.hid (Row.one w2 32)
            have hlo : w.heap.size ≤ (w2.alloc (.cells #[.int .u8 (32 : UInt8).toNat] 5)).heap.size := by have := HB2.out.size; simp; omega
            clear h0
            go_wp2_with (first | (refine wpList_appRow rfl _ _ rfl w.heap.size _ _ (HRA.out _) rfl _ _ _ H1.out rfl Nat.zero_lt_one hn0 hlo ?_; intro v3 w3 hr3 hb3 hsz3; have HR3 := Lib.hid hr3; have HB3 := Lib.hid ((HB2.out.alloc HB2.out.size _).trans hb3); have hlo3 := HB3.out.size) | (refine wpList_appText rfl _ _ rfl w.heap.size _ _ HR3.out rfl (S x.t) rfl hn2 hlo3 ?_; intro v4 w4 hr4 hb4 hsz4))
            have HR4 : Hid (Row w4 w.heap.size v4 (jt (l.take (j + 1)))) := Lib.hid (by rw [HJ1.out, HTX2.out]; exact hr4)
            have HB4 := Lib.hid (HB3.out.trans hb4)
            go_round
            case rel => exact ⟨j + 1, by omega, by go_num, HO2, Lib.hid (fun h => by omega), HR4, HB4⟩
            case measure => simp [intOf]; omega
        | false =>
          rw [hf] at HC
          obtain ⟨rfl, rfl⟩ := HEF.out (HIF.out (by rw [HK.out, hf]))
          go_wp2_with fail
          go_at_call 32
          refine (HC.out _).mono ?_
          rintro e w2 ⟨rfl, hb'⟩
          have HB2 := Lib.hid (HB.out.trans (hb'.mono HB.out.size))
          have HR2 := Lib.hid (HR.out.bel hb' (Nat.le_refl _)); clear hb'
          obtain ⟨y0, y1⟩ := HC3.out _ HB2.out
          rw [hk] at y0
          go_wp2_with fail
          go_ret2
          exact ⟨HB2.out, _, rfl, Row.nil _ _⟩
      by_cases hk : x.k = 2
      · obtain ⟨y0, y1⟩ := HC3.out _ HB.out
        rw [hk] at y0
        have HC : Hid (∀ w1, Calls Tryz.prog 33 #[.string (S x.t)] w1 fun e w' => e = .returned (.bool (int x.t)) ∧ Below w1.heap.size w1 w') := Lib.hid fun w1 => (integer_any x.t (by omega) w1).mono (by rintro e w2 ⟨rfl, rfl⟩; exact ⟨rfl, Below.refl _ _⟩)
        have HK : Hid (okT x.k x.t = int x.t) := Lib.hid (by rw [hk]; rfl)
        cases hf : int x.t with
        | true =>
          rw [hf] at HC
          have HO2 : Hid (okI (l.take (j + 1)) = true) := Lib.hid (by rw [HI.out, HO.out, HK.out, hf]; rfl)
          have HTX2 : Hid (tb = (S x.t).data.toList) := Lib.hid (by rw [HTX.out, hk]; unfold txT; rw [if_neg (by decide), if_pos (by simp)])
          have hts : (S x.t).size = tb.length := by rw [HTX2.out]; exact (Array.length_toList).symm
          have hn1 : (jt (l.take j)).length + (S x.t).size ≤ 10000000000000 := by rw [hts]; omega
          have hn0 : (jt (l.take j)).length + [(32 : UInt8)].length ≤ 10000000000000 := by rw [List.length_singleton]; omega
          have hn2 : (jt (l.take j) ++ [32]).length + (S x.t).size ≤ 10000000000000 := by rw [hts, List.length_append, List.length_singleton]; omega
          go_wp2_with fail
          go_at_call 33
          refine (HC.out _).mono ?_
          rintro e w2 ⟨rfl, hb'⟩
          have HB2 := Lib.hid (HB.out.trans (hb'.mono HB.out.size))
          have HR2 := Lib.hid (HR.out.bel hb' (Nat.le_refl _)); clear hb'
          obtain ⟨y0, y1⟩ := HC3.out _ HB2.out
          rw [hk] at y0
          by_cases h0 : j = 0
          · have h0i : ¬ (0 : Int) < (j : Int) := by omega
            have HJ1 : Hid (jt (l.take (j + 1)) = tb) := Lib.hid (HF.out h0)
            have HJz : Hid (jt (l.take j) = []) := Lib.hid (HJ0.out h0)
            clear h0
            go_wp2_with (refine wpList_appText rfl _ _ rfl w.heap.size _ _ HR2.out rfl (S x.t) rfl hn1 HB2.out.size ?_; intro v3 w3 hr3 hb3 hsz3)
            have HR3 : Hid (Row w3 w.heap.size v3 (jt (l.take (j + 1)))) := Lib.hid (by rw [HJ1.out, HTX2.out]; rw [HJz.out, List.nil_append] at hr3; exact hr3)
            have HB3 := Lib.hid (HB2.out.trans hb3)
            go_round
            case rel => exact ⟨j + 1, by omega, by go_num, HO2, Lib.hid (fun h => by omega), HR3, HB3⟩
            case measure => simp [intOf]; omega
          · have h0i : (0 : Int) < (j : Int) := by omega
            have HJ1 : Hid (jt (l.take (j + 1)) = jt (l.take j) ++ [32] ++ tb) := Lib.hid (HN.out (by omega))
            have HRA : Hid (∀ o, Row (w2.alloc o) w.heap.size _ (jt (l.take j))) := Lib.hid fun o => HR2.out.bel ((Below.refl w2.heap.size w2).alloc (Nat.le_refl _) o) (Nat.le_refl _)
            have H1 := Lib.hid (Row.one w2 32)
            have hlo : w.heap.size ≤ (w2.alloc (.cells #[.int .u8 (32 : UInt8).toNat] 5)).heap.size := by have := HB2.out.size; simp; omega
            clear h0
            go_wp2_with (first | (refine wpList_appRow rfl _ _ rfl w.heap.size _ _ (HRA.out _) rfl _ _ _ H1.out rfl Nat.zero_lt_one hn0 hlo ?_; intro v3 w3 hr3 hb3 hsz3; have HR3 := Lib.hid hr3; have HB3 := Lib.hid ((HB2.out.alloc HB2.out.size _).trans hb3); have hlo3 := HB3.out.size) | (refine wpList_appText rfl _ _ rfl w.heap.size _ _ HR3.out rfl (S x.t) rfl hn2 hlo3 ?_; intro v4 w4 hr4 hb4 hsz4))
            have HR4 : Hid (Row w4 w.heap.size v4 (jt (l.take (j + 1)))) := Lib.hid (by rw [HJ1.out, HTX2.out]; exact hr4)
            have HB4 := Lib.hid (HB3.out.trans hb4)
            go_round
            case rel => exact ⟨j + 1, by omega, by go_num, HO2, Lib.hid (fun h => by omega), HR4, HB4⟩
            case measure => simp [intOf]; omega
        | false =>
          rw [hf] at HC
          obtain ⟨rfl, rfl⟩ := HEF.out (HIF.out (by rw [HK.out, hf]))
          go_wp2_with fail
          go_at_call 33
          refine (HC.out _).mono ?_
          rintro e w2 ⟨rfl, hb'⟩
          have HB2 := Lib.hid (HB.out.trans (hb'.mono HB.out.size))
          have HR2 := Lib.hid (HR.out.bel hb' (Nat.le_refl _)); clear hb'
          obtain ⟨y0, y1⟩ := HC3.out _ HB2.out
          rw [hk] at y0
          go_wp2_with fail
          go_ret2
          exact ⟨HB2.out, _, rfl, Row.nil _ _⟩
      by_cases hk : x.k = 3
      · obtain ⟨y0, y1⟩ := HC3.out _ HB.out
        rw [hk] at y0
        have HC : Hid (∀ w1, Calls Tryz.prog 23 #[.string (S x.t)] w1 fun e w' => e = .returned (.tuple #[.int .i64 (timeT x.t), .int .i64 (timeE x.t)]) ∧ Below w1.heap.size w1 w') := Lib.hid fun w1 => refTime_any x.t (by omega) w1
        have HK : Hid (okT x.k x.t = (timeV x.t).isSome) := Lib.hid (by rw [hk]; rfl)
        rcases timeE_eq x.t with ⟨hf, he⟩ | ⟨hf, he⟩
        · rw [he] at HC
          have HO2 : Hid (okI (l.take (j + 1)) = true) := Lib.hid (by rw [HI.out, HO.out, HK.out, hf]; rfl)
          have HTX2 : Hid (tb = (S x.t).data.toList) := Lib.hid (by rw [HTX.out, hk]; unfold txT; rw [if_neg (by decide), if_pos (by simp)])
          have hts : (S x.t).size = tb.length := by rw [HTX2.out]; exact (Array.length_toList).symm
          have hn1 : (jt (l.take j)).length + (S x.t).size ≤ 10000000000000 := by rw [hts]; omega
          have hn0 : (jt (l.take j)).length + [(32 : UInt8)].length ≤ 10000000000000 := by rw [List.length_singleton]; omega
          have hn2 : (jt (l.take j) ++ [32]).length + (S x.t).size ≤ 10000000000000 := by rw [hts, List.length_append, List.length_singleton]; omega
          go_wp2_with fail
          go_at_call 23
          refine (HC.out _).mono ?_
          rintro e w2 ⟨rfl, hb'⟩
          have HB2 := Lib.hid (HB.out.trans (hb'.mono HB.out.size))
          have HR2 := Lib.hid (HR.out.bel hb' (Nat.le_refl _)); clear hb'
          obtain ⟨y0, y1⟩ := HC3.out _ HB2.out
          rw [hk] at y0
          by_cases h0 : j = 0
          · have h0i : ¬ (0 : Int) < (j : Int) := by omega
            have HJ1 : Hid (jt (l.take (j + 1)) = tb) := Lib.hid (HF.out h0)
            have HJz : Hid (jt (l.take j) = []) := Lib.hid (HJ0.out h0)
            clear h0
            go_wp2_with (refine wpList_appText rfl _ _ rfl w.heap.size _ _ HR2.out rfl (S x.t) rfl hn1 HB2.out.size ?_; intro v3 w3 hr3 hb3 hsz3)
            have HR3 : Hid (Row w3 w.heap.size v3 (jt (l.take (j + 1)))) := Lib.hid (by rw [HJ1.out, HTX2.out]; rw [HJz.out, List.nil_append] at hr3; exact hr3)
            have HB3 := Lib.hid (HB2.out.trans hb3)
            go_round
            case rel => exact ⟨j + 1, by omega, by go_num, HO2, Lib.hid (fun h => by omega), HR3, HB3⟩
            case measure => simp [intOf]; omega
          · have h0i : (0 : Int) < (j : Int) := by omega
            have HJ1 : Hid (jt (l.take (j + 1)) = jt (l.take j) ++ [32] ++ tb) := Lib.hid (HN.out (by omega))
            have HRA : Hid (∀ o, Row (w2.alloc o) w.heap.size _ (jt (l.take j))) := Lib.hid fun o => HR2.out.bel ((Below.refl w2.heap.size w2).alloc (Nat.le_refl _) o) (Nat.le_refl _)
            have H1 := Lib.hid (Row.one w2 32)
            have hlo : w.heap.size ≤ (w2.alloc (.cells #[.int .u8 (32 : UInt8).toNat] 5)).heap.size := by have := HB2.out.size; simp; omega
            clear h0
            go_wp2_with (first | (refine wpList_appRow rfl _ _ rfl w.heap.size _ _ (HRA.out _) rfl _ _ _ H1.out rfl Nat.zero_lt_one hn0 hlo ?_; intro v3 w3 hr3 hb3 hsz3; have HR3 := Lib.hid hr3; have HB3 := Lib.hid ((HB2.out.alloc HB2.out.size _).trans hb3); have hlo3 := HB3.out.size) | (refine wpList_appText rfl _ _ rfl w.heap.size _ _ HR3.out rfl (S x.t) rfl hn2 hlo3 ?_; intro v4 w4 hr4 hb4 hsz4))
            have HR4 : Hid (Row w4 w.heap.size v4 (jt (l.take (j + 1)))) := Lib.hid (by rw [HJ1.out, HTX2.out]; exact hr4)
            have HB4 := Lib.hid (HB3.out.trans hb4)
            go_round
            case rel => exact ⟨j + 1, by omega, by go_num, HO2, Lib.hid (fun h => by omega), HR4, HB4⟩
            case measure => simp [intOf]; omega
        · rw [he] at HC
          obtain ⟨rfl, rfl⟩ := HEF.out (HIF.out (by rw [HK.out, hf]))
          go_wp2_with fail
          go_at_call 23
          refine (HC.out _).mono ?_
          rintro e w2 ⟨rfl, hb'⟩
          have HB2 := Lib.hid (HB.out.trans (hb'.mono HB.out.size))
          have HR2 := Lib.hid (HR.out.bel hb' (Nat.le_refl _)); clear hb'
          obtain ⟨y0, y1⟩ := HC3.out _ HB2.out
          rw [hk] at y0
          go_wp2_with fail
          go_ret2
          exact ⟨HB2.out, _, rfl, Row.nil _ _⟩
      by_cases hk : x.k = 4
      · obtain ⟨y0, y1⟩ := HC3.out _ HB.out
        rw [hk] at y0
        have HC : Hid (∀ w1, Calls Tryz.prog 34 #[.string (S x.t)] w1 fun e w' => e = .returned (.bool (okQ x.t)) ∧ Below w1.heap.size w1 w') := Lib.hid fun w1 => (contents_any x.t htl w1).mono (by rintro e w2 ⟨rfl, rfl⟩; exact ⟨rfl, Below.refl _ _⟩)
        have HQ : Hid (∀ w1, Calls Tryz.prog 35 #[.string (S x.t)] w1 fun e w' => e = .returned (.string (S (quotC x.t))) ∧ Below w1.heap.size w1 w') := Lib.hid fun w1 => quote_any x.t htl w1
        have HK : Hid (okT x.k x.t = okQ x.t) := Lib.hid (by rw [hk]; rfl)
        cases hf : okQ x.t with
        | true =>
          rw [hf] at HC
          have HO2 : Hid (okI (l.take (j + 1)) = true) := Lib.hid (by rw [HI.out, HO.out, HK.out, hf]; rfl)
          have HTX2 : Hid (tb = (S (quotC x.t)).data.toList) := Lib.hid (by rw [HTX.out, hk]; unfold txT; rw [if_pos rfl]; unfold quotR; rw [if_pos hf, quotC_eq hf])
          have hts : (S (quotC x.t)).size = tb.length := by rw [HTX2.out]; exact (Array.length_toList).symm
          have hn1 : (jt (l.take j)).length + (S (quotC x.t)).size ≤ 10000000000000 := by rw [hts]; omega
          have hn0 : (jt (l.take j)).length + [(32 : UInt8)].length ≤ 10000000000000 := by rw [List.length_singleton]; omega
          have hn2 : (jt (l.take j) ++ [32]).length + (S (quotC x.t)).size ≤ 10000000000000 := by rw [hts, List.length_append, List.length_singleton]; omega
          go_wp2_with fail
          go_at_call 34
          refine (HC.out _).mono ?_
          rintro e w2 ⟨rfl, hb'⟩
          have HB2 := Lib.hid (HB.out.trans (hb'.mono HB.out.size))
          have HR2 := Lib.hid (HR.out.bel hb' (Nat.le_refl _)); clear hb'
          obtain ⟨y0, y1⟩ := HC3.out _ HB2.out
          rw [hk] at y0
          go_wp2_with fail
          go_at_call 35
          refine (HQ.out _).mono ?_
          rintro e w3 ⟨rfl, hb'⟩
          have HB2 := Lib.hid (HB2.out.trans (hb'.mono HB2.out.size))
          have HR2 := Lib.hid (HR2.out.bel hb' (Nat.le_refl _)); clear hb'
          obtain ⟨y0, y1⟩ := HC3.out _ HB2.out
          rw [hk] at y0
          by_cases h0 : j = 0
          · have h0i : ¬ (0 : Int) < (j : Int) := by omega
            have HJ1 : Hid (jt (l.take (j + 1)) = tb) := Lib.hid (HF.out h0)
            have HJz : Hid (jt (l.take j) = []) := Lib.hid (HJ0.out h0)
            clear h0
            go_wp2_with (refine wpList_appText rfl _ _ rfl w.heap.size _ _ HR2.out rfl (S (quotC x.t)) rfl hn1 HB2.out.size ?_; intro v5 w5 hr3 hb3 hsz3)
            have HR3 : Hid (Row w5 w.heap.size v5 (jt (l.take (j + 1)))) := Lib.hid (by rw [HJ1.out, HTX2.out]; rw [HJz.out, List.nil_append] at hr3; exact hr3)
            have HB3 := Lib.hid (HB2.out.trans hb3)
            go_round
            case rel => exact ⟨j + 1, by omega, by go_num, HO2, Lib.hid (fun h => by omega), HR3, HB3⟩
            case measure => simp [intOf]; omega
          · have h0i : (0 : Int) < (j : Int) := by omega
            have HJ1 : Hid (jt (l.take (j + 1)) = jt (l.take j) ++ [32] ++ tb) := Lib.hid (HN.out (by omega))
            have HRA : Hid (∀ o, Row (w3.alloc o) w.heap.size _ (jt (l.take j))) := Lib.hid fun o => HR2.out.bel ((Below.refl w3.heap.size w3).alloc (Nat.le_refl _) o) (Nat.le_refl _)
            have H1 := Lib.hid (Row.one w3 32)
            have hlo : w.heap.size ≤ (w3.alloc (.cells #[.int .u8 (32 : UInt8).toNat] 5)).heap.size := by have := HB2.out.size; simp; omega
            clear h0
            go_wp2_with (first | (refine wpList_appRow rfl _ _ rfl w.heap.size _ _ (HRA.out _) rfl _ _ _ H1.out rfl Nat.zero_lt_one hn0 hlo ?_; intro v5 w5 hr3 hb3 hsz3; have HR3 := Lib.hid hr3; have HB3 := Lib.hid ((HB2.out.alloc HB2.out.size _).trans hb3); have hlo3 := HB3.out.size) | (refine wpList_appText rfl _ _ rfl w.heap.size _ _ HR3.out rfl (S (quotC x.t)) rfl hn2 hlo3 ?_; intro v4 w4 hr4 hb4 hsz4))
            have HR4 : Hid (Row w4 w.heap.size v4 (jt (l.take (j + 1)))) := Lib.hid (by rw [HJ1.out, HTX2.out]; exact hr4)
            have HB4 := Lib.hid (HB3.out.trans hb4)
            go_round
            case rel => exact ⟨j + 1, by omega, by go_num, HO2, Lib.hid (fun h => by omega), HR4, HB4⟩
            case measure => simp [intOf]; omega
        | false =>
          rw [hf] at HC
          obtain ⟨rfl, rfl⟩ := HEF.out (HIF.out (by rw [HK.out, hf]))
          go_wp2_with fail
          go_at_call 34
          refine (HC.out _).mono ?_
          rintro e w2 ⟨rfl, hb'⟩
          have HB2 := Lib.hid (HB.out.trans (hb'.mono HB.out.size))
          have HR2 := Lib.hid (HR.out.bel hb' (Nat.le_refl _)); clear hb'
          obtain ⟨y0, y1⟩ := HC3.out _ HB2.out
          rw [hk] at y0
          go_wp2_with fail
          go_at_call 35
          refine (HQ.out _).mono ?_
          rintro e w3 ⟨rfl, hb'⟩
          have HB2 := Lib.hid (HB2.out.trans (hb'.mono HB2.out.size))
          have HR2 := Lib.hid (HR2.out.bel hb' (Nat.le_refl _)); clear hb'
          obtain ⟨y0, y1⟩ := HC3.out _ HB2.out
          rw [hk] at y0
          go_wp2_with fail
          go_ret2
          exact ⟨HB2.out, _, rfl, Row.nil _ _⟩
      by_cases hk : x.k = 5
      · obtain ⟨y0, y1⟩ := HC3.out _ HB.out
        rw [hk] at y0
        have HC : Hid (∀ w1, Calls Tryz.prog 36 #[.string (S x.t)] w1 fun e w' => e = .returned (.bool (signB x.t)) ∧ Below w1.heap.size w1 w') := Lib.hid fun w1 => (by have := refSign_any x.t w1; rw [signs_eq] at this; exact this.mono (by rintro e w2 ⟨rfl, rfl⟩; exact ⟨rfl, Below.refl _ _⟩))
        have HK : Hid (okT x.k x.t = signB x.t) := Lib.hid (by rw [hk]; rfl)
        cases hf : signB x.t with
        | true =>
          rw [hf] at HC
          have HO2 : Hid (okI (l.take (j + 1)) = true) := Lib.hid (by rw [HI.out, HO.out, HK.out, hf]; rfl)
          have HTX2 : Hid (tb = (S x.t).data.toList) := Lib.hid (by rw [HTX.out, hk]; unfold txT; rw [if_neg (by decide), if_pos (by simp)])
          have hts : (S x.t).size = tb.length := by rw [HTX2.out]; exact (Array.length_toList).symm
          have hn1 : (jt (l.take j)).length + (S x.t).size ≤ 10000000000000 := by rw [hts]; omega
          have hn0 : (jt (l.take j)).length + [(32 : UInt8)].length ≤ 10000000000000 := by rw [List.length_singleton]; omega
          have hn2 : (jt (l.take j) ++ [32]).length + (S x.t).size ≤ 10000000000000 := by rw [hts, List.length_append, List.length_singleton]; omega
          go_wp2_with fail
          go_at_call 36
          refine (HC.out _).mono ?_
          rintro e w2 ⟨rfl, hb'⟩
          have HB2 := Lib.hid (HB.out.trans (hb'.mono HB.out.size))
          have HR2 := Lib.hid (HR.out.bel hb' (Nat.le_refl _)); clear hb'
          obtain ⟨y0, y1⟩ := HC3.out _ HB2.out
          rw [hk] at y0
          by_cases h0 : j = 0
          · have h0i : ¬ (0 : Int) < (j : Int) := by omega
            have HJ1 : Hid (jt (l.take (j + 1)) = tb) := Lib.hid (HF.out h0)
            have HJz : Hid (jt (l.take j) = []) := Lib.hid (HJ0.out h0)
            clear h0
            go_wp2_with (refine wpList_appText rfl _ _ rfl w.heap.size _ _ HR2.out rfl (S x.t) rfl hn1 HB2.out.size ?_; intro v3 w3 hr3 hb3 hsz3)
            have HR3 : Hid (Row w3 w.heap.size v3 (jt (l.take (j + 1)))) := Lib.hid (by rw [HJ1.out, HTX2.out]; rw [HJz.out, List.nil_append] at hr3; exact hr3)
            have HB3 := Lib.hid (HB2.out.trans hb3)
            go_round
            case rel => exact ⟨j + 1, by omega, by go_num, HO2, Lib.hid (fun h => by omega), HR3, HB3⟩
            case measure => simp [intOf]; omega
          · have h0i : (0 : Int) < (j : Int) := by omega
            have HJ1 : Hid (jt (l.take (j + 1)) = jt (l.take j) ++ [32] ++ tb) := Lib.hid (HN.out (by omega))
            have HRA : Hid (∀ o, Row (w2.alloc o) w.heap.size _ (jt (l.take j))) := Lib.hid fun o => HR2.out.bel ((Below.refl w2.heap.size w2).alloc (Nat.le_refl _) o) (Nat.le_refl _)
            have H1 := Lib.hid (Row.one w2 32)
            have hlo : w.heap.size ≤ (w2.alloc (.cells #[.int .u8 (32 : UInt8).toNat] 5)).heap.size := by have := HB2.out.size; simp; omega
            clear h0
            go_wp2_with (first | (refine wpList_appRow rfl _ _ rfl w.heap.size _ _ (HRA.out _) rfl _ _ _ H1.out rfl Nat.zero_lt_one hn0 hlo ?_; intro v3 w3 hr3 hb3 hsz3; have HR3 := Lib.hid hr3; have HB3 := Lib.hid ((HB2.out.alloc HB2.out.size _).trans hb3); have hlo3 := HB3.out.size) | (refine wpList_appText rfl _ _ rfl w.heap.size _ _ HR3.out rfl (S x.t) rfl hn2 hlo3 ?_; intro v4 w4 hr4 hb4 hsz4))
            have HR4 : Hid (Row w4 w.heap.size v4 (jt (l.take (j + 1)))) := Lib.hid (by rw [HJ1.out, HTX2.out]; exact hr4)
            have HB4 := Lib.hid (HB3.out.trans hb4)
            go_round
            case rel => exact ⟨j + 1, by omega, by go_num, HO2, Lib.hid (fun h => by omega), HR4, HB4⟩
            case measure => simp [intOf]; omega
        | false =>
          rw [hf] at HC
          obtain ⟨rfl, rfl⟩ := HEF.out (HIF.out (by rw [HK.out, hf]))
          go_wp2_with fail
          go_at_call 36
          refine (HC.out _).mono ?_
          rintro e w2 ⟨rfl, hb'⟩
          have HB2 := Lib.hid (HB.out.trans (hb'.mono HB.out.size))
          have HR2 := Lib.hid (HR.out.bel hb' (Nat.le_refl _)); clear hb'
          obtain ⟨y0, y1⟩ := HC3.out _ HB2.out
          rw [hk] at y0
          go_wp2_with fail
          go_ret2
          exact ⟨HB2.out, _, rfl, Row.nil _ _⟩
      obtain ⟨y0, y1⟩ := HC3.out _ HB.out
      obtain ⟨rfl, rfl⟩ := HEF.out (HIF.out (by unfold okT; (repeat' split) <;> first | rfl | contradiction))
      have e1 : (x.k == 1) = false := beq_eq_false_iff_ne.2 ‹¬ x.k = 1›
      have e2 : (x.k == 2) = false := beq_eq_false_iff_ne.2 ‹¬ x.k = 2›
      have e3 : (x.k == 3) = false := beq_eq_false_iff_ne.2 ‹¬ x.k = 3›
      have e4 : (x.k == 4) = false := beq_eq_false_iff_ne.2 ‹¬ x.k = 4›
      have e5 : (x.k == 5) = false := beq_eq_false_iff_ne.2 ‹¬ x.k = 5›
      by_cases hk6 : x.k = 6
      · rw [hk6] at y0
        go_wp2_with fail
        go_ret2
        exact ⟨HB.out, _, rfl, Row.nil _ _⟩
      · have e6 : (x.k == 6) = false := beq_eq_false_iff_ne.2 hk6
        go_wp2_with fail
        go_ret2
        exact ⟨HB.out, _, rfl, Row.nil _ _⟩

    · by_cases hlast : j = n
      · have hji : (j : Int) < (n : Int) + 1 := by omega
        have HC3 := Lib.hid (fun w2 (hb : Below w.heap.size w w2) => cells3 HT.out hb n (by rw [List.length_append, List.length_singleton]; omega))
        have hz : (l ++ [z])[n]'(by rw [List.length_append, List.length_singleton]; omega) = z := by
          subst hn; simp
        rw [hz] at HC3
        have htl := ht z (by simp)
        have HRL : Hid (Row wr w.heap.size _ (jt l)) := Lib.hid (by have := HR.out; rwa [List.take_of_length_le (by omega)] at this)
        have HOL : Hid (okI l = true) := Lib.hid (by have := HO.out; rwa [List.take_of_length_le (by omega)] at this)
        have hjl : (jt l).length ≤ 20000300000 := HJL.out
        subst hlast
        clear ht hz
        by_cases hk : z.k = 1
        · obtain ⟨y0, y1⟩ := HC3.out _ HB.out
          rw [hk] at y0
          obtain ⟨rfl, rfl⟩ := HE1.out (by rw [hk]; simp)
          have HC : Hid (∀ w1, Calls Tryz.prog 32 #[.string (S z.t)] w1 fun e w' => e = .returned (.bool (word z.t)) ∧ Below w1.heap.size w1 w') := Lib.hid fun w1 => (by have := wordR_any z.t (by omega) w1; rw [word_eq] at this; exact this.mono (by rintro e w2 ⟨rfl, rfl⟩; exact ⟨rfl, Below.refl _ _⟩))
          generalize word z.t = f at *
          cases f
          all_goals
            go_wp2_with fail
            go_at_call 32
            refine (HC.out _).mono ?_
            rintro e w2 ⟨rfl, hb'⟩
            have HB2 := Lib.hid (HB.out.trans (hb'.mono HB.out.size))
            have HR2 := Lib.hid (HR.out.bel hb' (Nat.le_refl _)); clear hb'
            obtain ⟨y0, y1⟩ := HC3.out _ HB2.out
            rw [hk] at y0
            go_wp2_with fail
            go_ret2
            exact ⟨HB2.out, _, rfl, Row.nil _ _⟩
        by_cases hk : z.k = 2
        · obtain ⟨y0, y1⟩ := HC3.out _ HB.out
          rw [hk] at y0
          obtain ⟨rfl, rfl⟩ := HE1.out (by rw [hk]; simp)
          have HC : Hid (∀ w1, Calls Tryz.prog 33 #[.string (S z.t)] w1 fun e w' => e = .returned (.bool (int z.t)) ∧ Below w1.heap.size w1 w') := Lib.hid fun w1 => (integer_any z.t (by omega) w1).mono (by rintro e w2 ⟨rfl, rfl⟩; exact ⟨rfl, Below.refl _ _⟩)
          generalize int z.t = f at *
          cases f
          all_goals
            go_wp2_with fail
            go_at_call 33
            refine (HC.out _).mono ?_
            rintro e w2 ⟨rfl, hb'⟩
            have HB2 := Lib.hid (HB.out.trans (hb'.mono HB.out.size))
            have HR2 := Lib.hid (HR.out.bel hb' (Nat.le_refl _)); clear hb'
            obtain ⟨y0, y1⟩ := HC3.out _ HB2.out
            rw [hk] at y0
            go_wp2_with fail
            go_ret2
            exact ⟨HB2.out, _, rfl, Row.nil _ _⟩
        by_cases hk : z.k = 3
        · obtain ⟨y0, y1⟩ := HC3.out _ HB.out
          rw [hk] at y0
          obtain ⟨rfl, rfl⟩ := HE1.out (by rw [hk]; simp)
          have HC : Hid (∀ w1, Calls Tryz.prog 23 #[.string (S z.t)] w1 fun e w' => e = .returned (.tuple #[.int .i64 (timeT z.t), .int .i64 (timeE z.t)]) ∧ Below w1.heap.size w1 w') := Lib.hid fun w1 => refTime_any z.t (by omega) w1
          generalize timeT z.t = tt at *
          rcases timeE_eq z.t with ⟨hf, he⟩ | ⟨hf, he⟩
          all_goals
            rw [he] at HC
            go_wp2_with fail
            go_at_call 23
            refine (HC.out _).mono ?_
            rintro e w2 ⟨rfl, hb'⟩
            have HB2 := Lib.hid (HB.out.trans (hb'.mono HB.out.size))
            have HR2 := Lib.hid (HR.out.bel hb' (Nat.le_refl _)); clear hb'
            obtain ⟨y0, y1⟩ := HC3.out _ HB2.out
            rw [hk] at y0
            go_wp2_with fail
            go_ret2
            exact ⟨HB2.out, _, rfl, Row.nil _ _⟩
        by_cases hk : z.k = 4
        · obtain ⟨y0, y1⟩ := HC3.out _ HB.out
          rw [hk] at y0
          obtain ⟨rfl, rfl⟩ := HE1.out (by rw [hk]; simp)
          have HC : Hid (∀ w1, Calls Tryz.prog 34 #[.string (S z.t)] w1 fun e w' => e = .returned (.bool (okQ z.t)) ∧ Below w1.heap.size w1 w') := Lib.hid fun w1 => (contents_any z.t htl w1).mono (by rintro e w2 ⟨rfl, rfl⟩; exact ⟨rfl, Below.refl _ _⟩)
          have HQ : Hid (∀ w1, Calls Tryz.prog 35 #[.string (S z.t)] w1 fun e w' => e = .returned (.string (S (quotC z.t))) ∧ Below w1.heap.size w1 w') := Lib.hid fun w1 => quote_any z.t htl w1
          generalize okQ z.t = f at *
          cases f
          all_goals
            go_wp2_with fail
            go_at_call 34
            refine (HC.out _).mono ?_
            rintro e w2 ⟨rfl, hb'⟩
            have HB2 := Lib.hid (HB.out.trans (hb'.mono HB.out.size))
            have HR2 := Lib.hid (HR.out.bel hb' (Nat.le_refl _)); clear hb'
            obtain ⟨y0, y1⟩ := HC3.out _ HB2.out
            rw [hk] at y0
            go_wp2_with fail
            go_at_call 35
            refine (HQ.out _).mono ?_
            rintro e w3 ⟨rfl, hb'⟩
            have HB2 := Lib.hid (HB2.out.trans (hb'.mono HB2.out.size)); clear hb'
            obtain ⟨y0, y1⟩ := HC3.out _ HB2.out
            rw [hk] at y0
            go_wp2_with fail
            go_ret2
            exact ⟨HB2.out, _, rfl, Row.nil _ _⟩
        by_cases hk : z.k = 5
        · obtain ⟨y0, y1⟩ := HC3.out _ HB.out
          rw [hk] at y0
          obtain ⟨rfl, rfl⟩ := HE1.out (by rw [hk]; simp)
          have HC : Hid (∀ w1, Calls Tryz.prog 36 #[.string (S z.t)] w1 fun e w' => e = .returned (.bool (signB z.t)) ∧ Below w1.heap.size w1 w') := Lib.hid fun w1 => (by have := refSign_any z.t w1; rw [signs_eq] at this; exact this.mono (by rintro e w2 ⟨rfl, rfl⟩; exact ⟨rfl, Below.refl _ _⟩))
          generalize signB z.t = f at *
          cases f
          all_goals
            go_wp2_with fail
            go_at_call 36
            refine (HC.out _).mono ?_
            rintro e w2 ⟨rfl, hb'⟩
            have HB2 := Lib.hid (HB.out.trans (hb'.mono HB.out.size))
            have HR2 := Lib.hid (HR.out.bel hb' (Nat.le_refl _)); clear hb'
            obtain ⟨y0, y1⟩ := HC3.out _ HB2.out
            rw [hk] at y0
            go_wp2_with fail
            go_ret2
            exact ⟨HB2.out, _, rfl, Row.nil _ _⟩
        obtain ⟨y0, y1⟩ := HC3.out _ HB.out
        have e1 : (z.k == 1) = false := beq_eq_false_iff_ne.2 ‹¬ z.k = 1›
        have e2 : (z.k == 2) = false := beq_eq_false_iff_ne.2 ‹¬ z.k = 2›
        have e3 : (z.k == 3) = false := beq_eq_false_iff_ne.2 ‹¬ z.k = 3›
        have e4 : (z.k == 4) = false := beq_eq_false_iff_ne.2 ‹¬ z.k = 4›
        have e5 : (z.k == 5) = false := beq_eq_false_iff_ne.2 ‹¬ z.k = 5›
        by_cases hk6 : z.k = 6
        · rw [hk6] at y0
          by_cases hzt : z.t = []
          · have HTake : Hid (l.take (j + 1) = l) := Lib.hid (List.take_of_length_le (by omega))
            have hnil := S_nil
            rw [hzt] at y1
            have hn1 : (jt l).length + (S []).size ≤ 10000000000000 := by rw [S_size, List.length_nil]; omega
            have HZ2 : Hid (j + 1 = j + 1 → z.k = 6 ∧ z.t = []) := Lib.hid (fun _ => ⟨hk6, hzt⟩)
            by_cases h0 : (0 : Int) < (j : Int)
            all_goals
              go_wp2_with (refine wpList_appText rfl _ _ rfl w.heap.size _ _ HRL.out rfl (S []) rfl hn1 HB.out.size ?_; intro v3 w3 hr3 hb3 hsz3)
              have HR3 : Hid (Row w3 w.heap.size v3 (jt (l.take (j + 1)))) := Lib.hid (by rw [HTake.out]; rw [S_data, List.append_nil] at hr3; exact hr3)
              have HB3 := Lib.hid (HB.out.trans hb3)
              go_round
              case rel => exact ⟨j + 1, by omega, by go_num, Lib.hid (by rw [HTake.out]; exact HOL.out), HZ2, HR3, HB3⟩
              case measure => simp [intOf] <;> omega
          · have hne := S_ne z.t (List.length_pos_iff.2 hzt)
            obtain ⟨rfl, rfl⟩ := HE1.out (fun h => hzt h.2)
            go_wp2_with fail
            go_ret2
            exact ⟨HB.out, _, rfl, Row.nil _ _⟩
        · have e6 : (z.k == 6) = false := beq_eq_false_iff_ne.2 hk6
          obtain ⟨rfl, rfl⟩ := HE1.out (fun h => hk6 h.1)
          go_wp2_with fail
          go_ret2
          exact ⟨HB.out, _, rfl, Row.nil _ _⟩

      · have hjn : j = n + 1 := by omega
        have hji : ¬ (j : Int) < (n : Int) + 1 := by omega
        obtain ⟨hz1, hz2⟩ := HZ.out hjn
        have HOL : Hid (okI l = true) := Lib.hid (by have := HO.out; rwa [List.take_of_length_le (by omega)] at this)
        have HRL : Hid (Row wr w.heap.size _ (jt l)) := Lib.hid (by have := HR.out; rwa [List.take_of_length_le (by omega)] at this)
        obtain ⟨pp, pc, rfl⟩ := HRL.out.sl
        have hjl : (jt l).length ≤ 20000300000 := HJL.out
        by_cases hbig : 65536 < (jt l).length
        · obtain ⟨rfl, rfl⟩ := HEL.out hz1 hz2 HOL.out hbig
          have hbi : (65536 : Int) < ((jt l).length : Int) := by omega
          go_wp2_with fail
          go_ret2
          exact ⟨HB.out, _, rfl, Row.nil _ _⟩
        · obtain ⟨rfl, rfl⟩ := HEO.out hz1 hz2 HOL.out hbig
          have hbi : ¬ (65536 : Int) < ((jt l).length : Int) := by omega
          go_wp2_with fail
          go_ret2
          exact ⟨HB.out, _, rfl, HRL.out⟩
end Go.Proofs.YtlcmedimgoaneaaGreatDoor
