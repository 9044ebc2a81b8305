/- Conditions joined by a word. -/
import Derived.Test.YtdhdjfkknfbmhaaGreatDoorSRow
import Derived.Test.YtdhdjfkknfbmhaaGreatDoorSNum
namespace Go.Proofs.YtdhdjfkknfbmhaaGreatDoor
open Go.RowKit

/-- What a parser of a condition comes to. -/
def EndsC (w : World) (pb tb off cap : Nat) (M : Nat → Value) (L : List Tk) (T : PR Cd) (e : Ending) (w' : World) : Prop :=
  match T with
  | .ok c r => ∃ p k, e = .returned (cV c p k) ∧ CdIn w' (fun b => w.heap.size ≤ b) c p k ∧ Kp w w' pb ∧ ∃ q, L.drop q = r ∧ Psr w' pb tb off cap M L q
  | .err a x => e = .panicked (failV a x) ∧ Kp w w' pb
theorem OwnE.one {w : World} {B : Nat} {c : Cd} {p : Option Addr} {k : Nat} (hB : B ≤ w.heap.size) (h : CdIn w (fun b => B ≤ b) c p k) :
    OwnE (w.alloc (.cells #[.int .i64 c.k, .int .i64 c.v, .int .i64 c.n, .slice p c.ps.length k] 49)) B (.slice (some ⟨w.heap.size, 0, none⟩) 1 1) [(c, p, k)] := by
  refine ⟨⟨rfl, .inr ⟨w.heap.size, 1, _, rfl, hB, heap_alloc_new w _, Nat.le_refl _, by decide, rfl, rfl⟩⟩, fun e he => ?_⟩
  obtain rfl := List.mem_singleton.1 he
  refine h.keep2 (by simp) fun b hb hl => ⟨⟨hb, fun e2 => ?_⟩, ((Below.refl w.heap.size w).alloc (Nat.le_refl _) _).block b hl⟩
  have : b = w.heap.size := by simpa [Value.ownBlock] using e2
  omega
theorem moreS_less {word : Bs} {take : P Cd} {f : Nat} {l : List Tk} {acc : List Cd} : l = [] → moreS word take f l acc = .ok acc l := by
  rintro rfl
  cases f with
  | zero => rfl
  | succ f => rw [moreS]; rfl

theorem Z4.kp {w w' : World} {b pb : Nat} (h : Z4 w b) (hk : Kp w w' pb) (hne : b ≠ pb) : Z4 w' b := by
  have hh := hk.block b h.lt hne
  have hc := fun o => World.cell?_of_block (a := ⟨b, o, none⟩) hh
  obtain ⟨u0, u1, u2, u3, h0, h1, h2, h3⟩ := h.ex
  exact ⟨Nat.lt_of_lt_of_le h.lt hk.size, ⟨u0, u1, u2, u3, (hc 0).trans h0, (hc 1).trans h1, (hc 2).trans h2, (hc 3).trans h3⟩, fun o => (World.frozen?_of_block (a := ⟨b, o, none⟩) hh).trans (h.fz o)⟩
/-- What stands in the loop of joined. -/
structure JSt (w wr : World) (pb tb off cap : Nat) (M : Nat → Value) (L : List Tk) (v : Value) (es : List El) (q : Nat) : Prop where
  own : OwnE wr (w.heap.size + 1) v es
  psr : Psr wr pb tb off cap M L q
  kp : Kp w wr pb
  z : Z4 wr w.heap.size
  len : es.length ≤ q + 1

theorem put4_other {w : World} {b k : Nat} (h : k ≠ b) (v0 v1 v2 v3 : Value) : (put4 w b v0 v1 v2 v3).heap[k]? = w.heap[k]? := by
  unfold put4
  rw [heap_setCell_other _ _ _ _ h, heap_setCell_other _ _ _ _ h, heap_setCell_other _ _ _ _ h, heap_setCell_other _ _ _ _ h]
theorem put4_size {w : World} {b : Nat} (v0 v1 v2 v3 : Value) : (put4 w b v0 v1 v2 v3).heap.size = w.heap.size := by simp [put4]
/-- A condition laid into the cell of the result. -/
theorem put4_end {w w2 : World} {pb tb off cap : Nat} {M : Nat → Value} {L : List Tk} {q : Nat} {c : Cd} {p : Option Addr} {k : Nat} (hpb : pb < w.heap.size) (htb : tb < w.heap.size) (hp : Psr w2 pb tb off cap M L q) (hk : Kp w w2 pb)
    (hc : CdIn w2 (fun b => w.heap.size + 1 ≤ b) c p k) (v0 v1 v2 v3 : Value) : EndsC w pb tb off cap M L (.ok c (L.drop q)) (.returned (cV c p k)) (put4 w2 w.heap.size v0 v1 v2 v3) :=
  ⟨p, k, rfl, (hc.keep (Nat.le_of_eq (put4_size _ _ _ _).symm) fun b hb _ => put4_other (by omega) _ _ _ _).mono fun b hb => by omega,
    (((hk.set (Nat.le_refl _) 0 v0).set (Nat.le_refl _) 1 v1).set (Nat.le_refl _) 2 v2).set (Nat.le_refl _) 3 v3, q, rfl,
    hp.same (Nat.le_of_eq (put4_size _ _ _ _).symm) (put4_other (by omega) _ _ _ _) (put4_other (by omega) _ _ _ _)⟩
theorem CdIn.part0 {w : World} {Q : Nat → Prop} {k v n : Int} {c : Cd} {p : Option Addr} {cap : Nat} (h : CdIn w Q (.mk k v n [c]) p cap) : ∃ b off q d, p = some ⟨b, off, none⟩ ∧
    w.cell? ⟨b, off, none⟩ = some (.int .i64 c.k) ∧ w.cell? ⟨b, off + 1, none⟩ = some (.int .i64 c.v) ∧ w.cell? ⟨b, off + 2, none⟩ = some (.int .i64 c.n) ∧ w.cell? ⟨b, off + 3, none⟩ = some (.slice q c.ps.length d) ∧ CdIn w Q c q d := by
  cases h with
  | mk k v n ps p cap b off P C hl hc hc2 hp hb hcell hsub =>
    obtain ⟨e, _, _⟩ := hb (by simp)
    have hz := hcell 0 (by simp)
    simp only [Nat.zero_mul, Nat.add_zero, List.getElem_cons_zero] at hz
    exact ⟨b, off, P 0, C 0, e, hz.1, hz.2.1, hz.2.2.1, hz.2.2.2, hsub 0 (by simp)⟩
theorem oneS_many (kind : Int) : ∀ (ps : List Cd), ps.length ≠ 1 → oneS kind ps = .mk kind 0 0 ps
  | [], _ => rfl
  | [_], h => absurd rfl h
  | _ :: _ :: _, _ => rfl
theorem JSt.push {w w3 w4 : World} {pb tb off cap : Nat} {M : Nat → Value} {L : List Tk} {v v2 : Value} {es : List El} {e : El} {q q' : Nat} (hpb : pb < w.heap.size) (htb : tb < w.heap.size)
    (own : OwnE w3 (w.heap.size + 1) v es) (psr : Psr w3 pb tb off cap M L q') (kp : Kp w w3 pb) (z : Z4 w3 w.heap.size) (hlen : es.length ≤ q + 1) (hq : q + 1 ≤ q')
    (h : OwnE w4 (w.heap.size + 1) v2 (es ++ [e])) (hg : w3.grownBy w4 v.ownBlock) : JSt w w4 pb tb off cap M L v2 (es ++ [e]) q' := by
  have hb : ∀ k, k ≤ w.heap.size → w4.heap[k]? = w3.heap[k]? := fun k hk => hg.block k (by have := z.lt; omega) fun e => by have := (own.lt k e.symm).1; omega
  refine ⟨h, psr.same hg.size (hb pb (by omega)) (hb tb (by omega)), ⟨hg.os.trans kp.os, hg.tape.trans kp.tape, hg.output.trans kp.output, Nat.le_trans kp.size hg.size, fun k hk hne => (hb k (by omega)).trans (kp.block k hk hne)⟩, ?_, by simp; omega⟩
  have hh := hb w.heap.size (Nat.le_refl _)
  have hc := fun o => World.cell?_of_block (a := ⟨w.heap.size, o, none⟩) hh
  obtain ⟨u0, u1, u2, u3, h0, h1, h2, h3⟩ := z.ex
  exact ⟨Nat.lt_of_lt_of_le z.lt hg.size, ⟨u0, u1, u2, u3, (hc 0).trans h0, (hc 1).trans h1, (hc 2).trans h2, (hc 3).trans h3⟩, fun o => (World.frozen?_of_block (a := ⟨w.heap.size, o, none⟩) hh).trans (z.fz o)⟩
/-- How many tokens the parser has left. -/
def restOf (w : World) (pb : Nat) : Nat := match w.cell? ⟨pb, 0, none⟩ with | some (.slice _ n _) => n | _ => 0
theorem Psr.restOf {w : World} {pb tb off cap : Nat} {M : Nat → Value} {L : List Tk} {i : Nat} (h : Psr w pb tb off cap M L i) : Go.Proofs.YtdhdjfkknfbmhaaGreatDoor.restOf w pb = L.length - i := by
  unfold Go.Proofs.YtdhdjfkknfbmhaaGreatDoor.restOf
  rw [h.c0]

set_option maxHeartbeats 8000000 in
set_option maxRecDepth 100000 in
theorem joined1_any (word : Bs) (hw : word.length ≤ 1000) (kind : Int) (take : P Cd) (hless : Less take) (b1 b2 : Nat) (w : World) (pb tb off cap : Nat) (M : Nat → Value) (L : List Tk) (i : Nat) (h : Psr w pb tb off cap M L i)
    (hT : ∀ wx q, Kp w wx pb → Psr wx pb tb off cap M L q → Calls Tryz.prog 96 #[.pointer (some ⟨b1, 0, none⟩), .pointer (some ⟨b2, 0, none⟩)] wx fun e w' => EndsC wx pb tb off cap M L (take (L.drop q)) e w') :
    Calls Tryz.prog 99 #[.pointer (some ⟨pb, 0, none⟩), .string (S word), .int .i64 kind, .func (Fn.func 96) #[] #[.pointer (some ⟨b1, 0, none⟩), .pointer (some ⟨b2, 0, none⟩)]] w fun e w' => EndsC w pb tb off cap M L (joinedS word kind take (L.drop i)) e w' := by
  have HA0 := Lib.hid ((Below.refl w.heap.size w).alloc (Nat.le_refl _) (.cells #[.int .i64 0, .int .i64 0, .int .i64 0, .slice none 0 0] 49))
  have HZ0 := Lib.hid (Z4.new w)
  have HK0 := Lib.hid (Kp.ofBelow (sb := pb) HA0.out (Nat.le_refl _))
  have HT0 := Lib.hid (hT _ i HK0.out (h.bel HA0.out (Nat.le_refl _)))
  unfold joinedS
  cases hx : take (L.drop i) with
  | err a x =>
    rw [hx] at HT0
    clear hT hx h
    show Calls _ _ _ _ fun e w' => e = .panicked (failV a x) ∧ Kp w w' pb
    go_enter Tryz.func99, Tryz.ntmps99
    go_wp2_with fail
    go_at_call 96
    refine HT0.out.mono ?_
    rintro e w1 ⟨rfl, hk⟩
    go_wp2_with fail
    exact ⟨rfl, rfl, HK0.out.trans hk⟩
  | ok c r =>
    rw [hx] at HT0
    show Calls _ _ _ _ fun e w' => EndsC w pb tb off cap M L (PR.map (oneS kind) (moreS word take r.length r [c])) e w'
    obtain ⟨T, hTT⟩ : ∃ T, moreS word take r.length r [c] = T := ⟨_, rfl⟩
    rw [hTT]
    go_enter Tryz.func99, Tryz.ntmps99
    go_wp2_with fail
    go_at_call 96
    refine HT0.out.mono ?_
    rintro e w1 ⟨p, k, rfl, hc, hk, q, rfl, hp⟩
    have hpb := h.lt
    have HJ : Hid (JSt w (w1.alloc (.cells #[.int .i64 c.k, .int .i64 c.v, .int .i64 c.n, .slice p c.ps.length k] 49)) pb tb off cap M L (.slice (some ⟨w1.heap.size, 0, none⟩) 1 1) [(c, p, k)] q) := Lib.hid (by
      have hA := (Below.refl w1.heap.size w1).alloc (Nat.le_refl _) (.cells #[.int .i64 c.k, .int .i64 c.v, .int .i64 c.n, .slice p c.ps.length k] 49)
      have hs := hk.size
      simp only [World.size_alloc] at hs hc
      exact ⟨OwnE.one (by omega) hc, hp.bel hA (Nat.le_refl _), (HK0.out.trans hk).trans (Kp.ofBelow hA (Nat.le_refl _)), (HZ0.out.kp hk (by omega)).bel hA (by omega), by simp⟩)
    have HM0 : Hid (∃ f, (L.drop q).length ≤ f ∧ moreS word take f (L.drop q) ([(c, p, k)].map (·.1)) = T) := Lib.hid ⟨_, Nat.le_refl _, hTT⟩
    have HTK := Lib.hid hT
    have htb := h.tlt
    clear hc hk hp hT HT0 HZ0 HK0 HA0 h hx
    unfold cV
    go_wp2_with fail
    go_loopw [9] (fun v wr => ∃ es q, Hid (JSt w wr pb tb off cap M L v es q) ∧ Hid (∃ f, (L.drop q).length ≤ f ∧ moreS word take f (L.drop q) (es.map (·.1)) = T)) (fun _ wr => restOf wr pb)
    case atStart => exact ⟨_, q, HJ, HM0⟩
    case round =>
      obtain ⟨es, q', HJ', HM⟩ := hrel
      clear HJ HM0 hTT
      have HAC := Lib.hid (accept_any word hw _ pb tb off cap M L q' HJ'.out.psr)
      obtain ⟨f, hf⟩ : ∃ f, seesS word (L.drop q') = f := ⟨_, rfl⟩
      rw [hf] at HAC
      cases f with
      | true =>
        simp only [if_true] at HAC
        have HM2 : Hid (∃ f, (L.drop (q' + 1)).length ≤ f ∧ ((take (L.drop (q' + 1))).bind fun c r => moreS word take f r (es.map (·.1) ++ [c])) = T) := Lib.hid (by
          obtain ⟨f, h1, h2⟩ := HM.out
          have hl := HJ'.out.psr.il
          rw [List.length_drop] at h1
          obtain ⟨f, rfl⟩ : ∃ g, f = g + 1 := ⟨f - 1, by omega⟩
          rw [moreS, if_pos hf, List.tail_drop] at h2
          exact ⟨f, by rw [List.length_drop]; omega, h2⟩)
        clear hf HM
        have hown := HJ'.out.own.lt
        go_wp2_with (go_at_call 122; refine HAC.out.mono ?_; rintro e w2 ⟨rfl, hp2, hk2⟩; have HP2 := Lib.hid hp2; have HK2 := Lib.hid (HJ'.out.kp.trans hk2); have HZ2 := Lib.hid (HJ'.out.z.kp hk2 (by omega)); have HO2 := Lib.hid (HJ'.out.own.kept hk2 (by omega)); clear hp2 hk2)
        have HTK2 := Lib.hid (HTK.out _ (q' + 1) HK2.out HP2.out)
        cases hx : take (L.drop (q' + 1)) with
        | err a x =>
          rw [hx] at HTK2
          have hTe : T = .err a x := by obtain ⟨f, _, h2⟩ := HM2.out; rw [hx] at h2; exact h2.symm
          subst hTe
          go_at_call 96
          refine HTK2.out.mono ?_
          rintro e w3 ⟨rfl, hk3⟩
          go_wp2_with fail
          exact ⟨rfl, rfl, HK2.out.trans hk3⟩
        | ok c' r' =>
          rw [hx] at HTK2
          go_at_call 96
          refine HTK2.out.mono ?_
          rintro e w3 ⟨p', k', rfl, hc3, hk3, q3, hr3, hp3⟩
          have hless' := hless _ _ _ hx
          rw [← hr3, List.length_drop, List.length_drop] at hless'
          have hil := hp3.il
          have hil2 := HJ'.out.psr.il
          have hlen := HJ'.out.len
          have hll := HJ'.out.psr.ll
          have HO3 := Lib.hid (HO2.out.kept hk3 (by omega))
          have HZ3 := Lib.hid (HZ2.out.kp hk3 (by omega))
          have HP3 := Lib.hid hp3
          have HK3 := Lib.hid (HK2.out.trans hk3)
          have hown2 := HO2.out.lt
          have hsz2 := HZ2.out.lt
          have hsz3 := HZ3.out.lt
          have HV3 := Lib.hid (hc3.mono (Q' := fun b => w.heap.size + 1 ≤ b ∧ some b ≠ Value.ownBlock _) fun b hb => ⟨by omega, fun e => by have := (hown2 b e.symm).2; omega⟩)
          have HM3 : Hid (∃ f, (L.drop q3).length ≤ f ∧ moreS word take f (L.drop q3) ((es ++ [(c', p', k')]).map (·.1)) = T) := Lib.hid (by
            obtain ⟨f, h1, h2⟩ := HM2.out
            rw [hx] at h2
            refine ⟨f, by rw [List.length_drop] at h1 ⊢; omega, ?_⟩
            rw [hr3, List.map_append]
            exact h2)
          have hn : es.length ≤ 2000000000000 := by omega
          clear hc3 hk3 hp3 hr3 hx HM2 HTK2 hown hown2
          unfold cV
          go_wp2_with (refine wpList_pushV rfl _ _ rfl (w.heap.size + 1) _ es HO3.out rfl c' p' k' 1 rfl HV3.out hn hsz3 ?_; intro g cap' w4 ho4 hg4; have HJ4 := Lib.hid (JSt.push (q := q') hpb htb HO3.out HP3.out HK3.out HZ3.out hlen (by omega) ho4 hg4); clear ho4 hg4)
          go_roundw
          case rel => exact ⟨_, q3, HJ4, HM3⟩
          case measure => rw [HJ4.out.psr.restOf, HJ'.out.psr.restOf]; omega
      | false =>
        have hTe : T = .ok (es.map (·.1)) (L.drop q') := by
          obtain ⟨f, h1, h2⟩ := HM.out
          cases f with
          | zero => exact h2.symm
          | succ f =>
            rw [moreS, if_neg (by rw [hf]; decide)] at h2
            exact h2.symm
        subst hTe
        clear hf HM HTK
        simp only [Bool.false_eq_true, if_false] at HAC
        have hlen := HJ'.out.len
        have hil2 := HJ'.out.psr.il
        have hll := HJ'.out.psr.ll
        obtain ⟨pp, kk, rfl, hcd⟩ := HJ'.out.own.reads (by omega) kind 0 0
        have HCD := Lib.hid hcd
        clear hcd
        by_cases h1 : es.length = 1
        · obtain ⟨e0, rfl⟩ : ∃ e0, es = [e0] := by
            match es, h1 with
            | [e0], _ => exact ⟨e0, rfl⟩
          go_wp2_with (go_at_call 122; refine HAC.out.mono ?_; rintro e w2 ⟨rfl, hp2, hk2⟩; have HP2 := Lib.hid hp2; have HK2 := Lib.hid (HJ'.out.kp.trans hk2); have HZ2 := Lib.hid (HJ'.out.z.kp hk2 (by omega)); have HC2 := Lib.hid (HCD.out.keep hk2.size fun b hb hl => hk2.block b hl (by omega)); clear hp2 hk2; obtain ⟨u0, u1, u2, u3, z0, z1, z2, z3⟩ := HZ2.out.ex; have f0 := HZ2.out.fz 0; have f1 := HZ2.out.fz 1; have f2 := HZ2.out.fz 2; have f3 := HZ2.out.fz 3; obtain ⟨bb, bo, qq, dd, rfl, y0, y1, y2, y3, hce⟩ := CdIn.part0 HC2.out; have HCE := Lib.hid hce; clear hce)
          have HC := HZ2.out.put (.int .i64 e0.1.k) (.int .i64 e0.1.v) (.int .i64 e0.1.n) (.slice qq e0.1.ps.length dd)
          unfold put4 at HC
          obtain ⟨c0, c1, c2, c3⟩ := HC
          refine bodyPost_ret (v := .agg #[.int .i64 e0.1.k, .int .i64 e0.1.v, .int .i64 e0.1.n, .slice qq e0.1.ps.length dd]) ?_ rfl (put4_end hpb htb HP2.out HK2.out HCE.out _ _ _ _)
          simp [results, Tryz.results99, go_sem, c0, c1, c2, c3]
        · have h1i : ((es.length : Int) == 1) = false := beq_eq_false_iff_ne.2 (by omega)
          have hone := oneS_many kind (es.map (·.1)) (by rw [List.length_map]; exact h1)
          have HONE := Lib.hid hone
          clear hone
          go_wp2_with (go_at_call 122; refine HAC.out.mono ?_; rintro e w2 ⟨rfl, hp2, hk2⟩; have HP2 := Lib.hid hp2; have HK2 := Lib.hid (HJ'.out.kp.trans hk2); have HZ2 := Lib.hid (HJ'.out.z.kp hk2 (by omega)); have HC2 := Lib.hid (HCD.out.keep hk2.size fun b hb hl => hk2.block b hl (by omega)); clear hp2 hk2; obtain ⟨u0, u1, u2, u3, z0, z1, z2, z3⟩ := HZ2.out.ex; have f0 := HZ2.out.fz 0; have f1 := HZ2.out.fz 1; have f2 := HZ2.out.fz 2; have f3 := HZ2.out.fz 3)
          have HC := HZ2.out.put (.int .i64 kind) (.int .i64 0) (.int .i64 0) (.slice pp es.length kk)
          unfold put4 at HC
          obtain ⟨c0, c1, c2, c3⟩ := HC
          have HE := put4_end hpb htb HP2.out HK2.out HC2.out (.int .i64 kind) (.int .i64 0) (.int .i64 0) (.slice pp es.length kk)
          rw [← HONE.out] at HE
          have hcv : cV (oneS kind (es.map (·.1))) pp kk = .agg #[.int .i64 kind, .int .i64 0, .int .i64 0, .slice pp es.length kk] := by rw [HONE.out]; unfold cV; rw [show (Cd.mk kind 0 0 (es.map (·.1))).ps.length = es.length from List.length_map ..]; rfl
          rw [hcv] at HE
          refine bodyPost_ret (v := .agg #[.int .i64 kind, .int .i64 0, .int .i64 0, .slice pp es.length kk]) ?_ rfl HE
          simp [results, Tryz.results99, go_sem, c0, c1, c2, c3]
end Go.Proofs.YtdhdjfkknfbmhaaGreatDoor
