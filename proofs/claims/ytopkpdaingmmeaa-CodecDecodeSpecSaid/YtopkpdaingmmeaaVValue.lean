/- The writer of lists, and of a value. -/
import Derived.Test.YtopkpdaingmmeaaVWrite
import Derived.StillTailTactics
import Derived.Deep.DeepCutAuto
namespace Go.Proofs.Ytopkpdaingmmeaa
open Go.RowKit

/-- What the writing of a value of at most this rank does. -/
def ValueOf (N : Nat) : Prop := ∀ (v : V), rank v ≤ N → formed v = true → ∀ (w0 : World) (B : Nat) (p : Option Addr) (cap : Nat), VAt w0 B v p cap →
  ∀ (w : World) (lo ob : Nat) (ov : Value) (bs : List UInt8), w0.heap.size ≤ lo → Below w0.heap.size w0 w → Out w lo ob ov bs → bs.length + (enc v).length ≤ 1000000000000 →
  Calls Try.prog 28 #[.pointer (some ⟨ob, 0, none⟩), vV v p cap] w fun e w' => e = .returned (.tuple #[]) ∧ Below lo w w' ∧ ∃ v', Out w' lo ob v' (bs ++ enc v)

set_option maxHeartbeats 1000000 in
theorem writeList_any {N : Nat} (hN : ValueOf N) (k n : Int) (s : ByteArray) (l : List V) (hrl : ∀ x ∈ l, rank x ≤ N) (hfl : ∀ x ∈ l, formed x = true) (w0 : World) (B : Nat) (p : Option Addr) (cap : Nat) (hl : LAt w0 B l p cap)
    (w : World) (lo ob : Nat) (ov : Value) (bs : List UInt8) (hlo : w0.heap.size ≤ lo) (hw0 : Below w0.heap.size w0 w) (ho : Out w lo ob ov bs) (hbs : bs.length + ((num l.length).length + (encL l).length) ≤ 1000000000000) :
    Calls Try.prog 43 #[.pointer (some ⟨ob, 0, none⟩), .agg #[.int .i64 k, .int .i64 n, .string s, .slice p l.length cap]] w fun e w' => e = .returned (.tuple #[]) ∧ Below lo w w' ∧ ∃ v', Out w' lo ob v' (bs ++ (num l.length ++ encL l)) := by
  have hlen : l.length ≤ 2600000000000 := hl.len
  have HB : Hid (∀ o, Below lo w (w.alloc o)) := Lib.hid fun o => (Below.refl lo w).alloc ho.base o
  have hoblt := ho.lt
  have hrow := ho.row_lt
  have hbase := ho.base
  have HLO := Lib.hid ho.lo
  have HN : Hid (Calls Try.prog 56 #[.pointer (some ⟨ob, 0, none⟩), .int .u64 l.length] (w.alloc (.cells #[.int .i64 k, .int .i64 n, .string s, .slice p l.length cap] 24)) fun e w' => e = .returned (.tuple #[]) ∧ Below lo w w' ∧ (∃ v', Out w' lo ob v' (bs ++ num l.length)) ∧ w'.cell? ⟨w.heap.size, 3, none⟩ = some (.slice p l.length cap)) := Lib.hid <|
    (numeral_any lo ob l.length (by omega) bs (by omega) ov _ (ho.alloc _)).mono fun e w' ⟨h1, v', h2, h3, _⟩ => ⟨h1, (HB.out _).trans (h3.below ho.lo ho.rows (Nat.le_trans ho.base (HB.out _).size)), ⟨v', h2⟩, by
      rw [h3.cell (a := ⟨w.heap.size, 3, none⟩) (by simp) (by simp; omega) (by intro e; have := hrow _ e.symm; simp at this)]
      simp [go_sem]⟩
  have HL := Lib.hid hl
  have HW0 := Lib.hid hw0
  have HLE := Lib.hid (encL_take_le l)
  clear ho hrow hl hw0
  generalize hE : (encL l).length = E at *
  have HE := Lib.hid hE; clear hE
  generalize hM : (num l.length).length = m at *
  have HM := Lib.hid hM; clear hM
  go_enter Try.func43, Try.ntmps43
  go_wp2_with fail
  go_at_call 56
  refine HN.out.mono ?_
  rintro e w1 ⟨rfl, h2, ⟨v1, h3⟩, h4⟩
  have HB1 := Lib.hid h2
  have H1 := Lib.hid h3
  clear h2 h3 HN
  go_wp2_with fail
  go_loopw [15] (fun i wr => ∃ j : Nat, j ≤ l.length ∧ i = .int .i64 j ∧ Hid (∃ v2, Out wr lo ob v2 (bs ++ (num l.length ++ encL (l.take j)))) ∧ Hid (Below lo w wr)) (fun i _ => l.length - (intOf i).toNat)
  case atStart => exact ⟨0, Nat.zero_le _, rfl, Lib.hid ⟨v1, by rw [List.take_zero, encL, List.append_nil]; exact H1.out⟩, Lib.hid HB1.out⟩
  case round =>
    obtain ⟨j, hj, rfl, HO, HB2⟩ := hrel
    by_cases hlt : j < l.length
    · have HW2 := Lib.hid (HW0.out.trans (HB2.out.mono hlo))
      obtain ⟨b, off, q1, c, rfl, hbs1, e0, e1, e2, e3, hx⟩ := HL.out.elem HW2.out j hlt
      have hbs2 : b < wr.heap.size := hbs1
      obtain ⟨v2, ho2⟩ := HO.out
      have HM2 : Hid (∀ o, Calls Try.prog 28 #[.pointer (some ⟨ob, 0, none⟩), vV l[j] q1 c] (wr.alloc o) fun e w' => e = .returned (.tuple #[]) ∧ Below lo w w' ∧ ∃ v', Out w' lo ob v' (bs ++ (num l.length ++ encL (l.take (j + 1))))) := by
        obtain ⟨b', off', P, C, hp, _, _, hcc⟩ := HL.out.cells (by show l ≠ []; rintro rfl; simp at hlt)
        obtain ⟨f0, f1, f2, f3, hx0⟩ := hcc j hlt
        obtain ⟨rfl, rfl⟩ : b = b' ∧ off = off' := by
          injection hp with hp
          injection hp with h1 h2
          exact ⟨h1, h2⟩
        have h3 := (HW2.out.cell (p := ⟨b, off + j * 4 + 3, none⟩) (by assumption)).trans f3
        rw [e3] at h3
        obtain ⟨rfl, rfl⟩ : q1 = P j ∧ c = C j := by
          injection h3 with h3
          injection h3 with h1 _ h2
          exact ⟨h1, h2⟩
        refine Lib.hid fun o => (hN l[j] (hrl _ (List.getElem_mem hlt)) (hfl _ (List.getElem_mem hlt)) w0 B _ _ hx0 (wr.alloc o) lo ob v2 _ hlo (HW2.out.trans ((Below.refl _ wr).alloc HW2.out.size o)) (ho2.alloc o) ?_).mono fun e w' ⟨h1, h2, v3, h3⟩ => ⟨h1, (HB2.out.trans ((Below.refl lo wr).alloc ho2.base o)).trans h2, v3, ?_⟩
        · have h5 := HLE.out (j + 1)
          rw [encL_take l j hlt, List.length_append] at h5
          rw [List.length_append, List.length_append, HM.out]
          omega
        · rw [encL_take l j hlt]
          simpa only [List.append_assoc] using h3
      unfold vV at HM2
      clear hx ho2
      generalize l[j].l.length = n1 at *
      generalize l[j].k = x1 at *
      generalize l[j].n = x2 at *
      generalize l[j].s = x3 at *
      go_wp2_with fail
      go_at_call 28
      refine (HM2.out _).mono ?_
      rintro e w' ⟨rfl, hb', ho'⟩
      have HB3 := Lib.hid hb'
      have HO3 := Lib.hid ho'
      clear hb' HM2 ho'
      go_wp2
      go_round
      case rel => exact ⟨j + 1, by omega, by go_num, HO3, HB3⟩
      case measure => simp [intOf]; omega
    · have hall : l.take j = l := List.take_of_length_le (by omega)
      rw [hall] at HO
      go_wp2_with fail
      go_end0
      exact ⟨rfl, HB2.out, HO.out⟩

/-- What is known of the world behind the first byte. -/
def Behind (w0 w wc : World) (lo ob : Nat) (bs : List UInt8) (k n : Int) (s : ByteArray) (sl : Value) : Prop :=
  Below w0.heap.size w0 wc ∧ Below lo w wc ∧ (∃ v1, Out wc lo ob v1 bs) ∧ Box wc w.heap.size k n s sl

theorem behind_of {w0 w w2 w5 : World} {lo ob : Nat} {ov v' : Value} {bs : List UInt8} {kb : UInt8} {k n : Int} {s : ByteArray} {sl : Value} {m : Nat} (hlo : w0.heap.size ≤ lo) (hw0 : Below w0.heap.size w0 w) (ho : Out w lo ob ov bs)
    (h12 : Below (w.heap.size + 1) (w.alloc (.cells #[.int .i64 k, .int .i64 n, .string s, sl] 24)) w2) (hg : w2.grownBy w5 ov.ownBlock) (hown : w5.ownsRow lo 5 1 v' m (bs.map bv ++ [bv kb])) (hm : m = bs.length + 1) :
    Behind w0 w (w5.setCell ⟨ob, 0, none⟩ v') lo ob (bs ++ [kb]) k n s sl := by
  have h1 : Below w.heap.size w (w.alloc (.cells #[.int .i64 k, .int .i64 n, .string s, sl] 24)) := (Below.refl w.heap.size w).alloc (Nat.le_refl _) _
  have h2 : Below w.heap.size w w2 := h1.trans (h12.mono (by omega))
  have ho2 := ho.bel h2 (Nat.le_refl _)
  have hgr := ho2.grow (v' := v') (bs' := bs ++ [kb]) (by rw [List.length_append, List.map_append]; subst hm; exact hown) hg
  have hlow : Below lo w (w5.setCell ⟨ob, 0, none⟩ v') := (h2.mono ho.base).trans (hgr.2.below ho.lo ho.rows ho2.base)
  have hbox := (Box.new w k n s sl).bel h12 (Nat.lt_succ_self _)
  have hlt := ho.lt
  have hk : ∀ o, (w5.setCell ⟨ob, 0, none⟩ v').cell? ⟨w.heap.size, o, none⟩ = w2.cell? ⟨w.heap.size, o, none⟩ := fun o =>
    hgr.2.cell (a := ⟨w.heap.size, o, none⟩) hbox.lt (by dsimp only; omega) (fun e => by have := ho.row_lt _ e.symm; dsimp only at this; omega)
  exact ⟨hw0.trans (hlow.mono hlo), hlow, ⟨v', hgr.1⟩, Nat.lt_of_lt_of_le hbox.lt hgr.2.size, (hk 0).trans hbox.c0, (hk 1).trans hbox.c1, (hk 2).trans hbox.c2, (hk 3).trans hbox.c3⟩

set_option maxHeartbeats 1000000 in
theorem value_rank (N : Nat) : ValueOf N := by
  induction N with
  | zero => intro v hv; obtain ⟨k, n, s, l⟩ := v; rw [rank_mk] at hv; omega
  | succ N ih =>
    intro v hv hf w0 B p cap h w lo ob ov bs hlo hw0 ho hbs
    obtain ⟨k, n, s, l⟩ := v
    have hrl : ∀ x ∈ l, rank x ≤ N := fun x hx => by have := rank_lt k n s l x hx; omega
    have hl := h.list
    have hlen := h.len
    have hfit := h.fitN
    change LAt w0 B l p cap at hl
    change l.length ≤ 2600000000000 at hlen
    change Fit64 n at hfit
    show Calls Try.prog 28 #[.pointer (some ⟨ob, 0, none⟩), .agg #[.int .i64 k, .int .i64 n, .string s, .slice p l.length cap]] w _
    have hoblt := ho.lt
    have c0 := ho.c0
    have fz := ho.fz
    have HO := Lib.hid ho
    have hbsl : bs.length ≤ 10000000000000 := by omega
    have hkb : ∃ kb : UInt8, IntKind.u8.wrap k = kb.toNat ∧ enc (.mk k n s l) = kb :: (enc (.mk k n s l)).tail := by
      rcases formed_kind hf with rfl | rfl | rfl
      · exact ⟨1, rfl, by rw [enc, if_pos rfl]; rfl⟩
      · exact ⟨2, rfl, by rw [enc, if_neg (by decide), if_pos rfl]; rfl⟩
      · exact ⟨3, rfl, by rw [enc, if_neg (by decide), if_neg (by decide)]; rfl⟩
    obtain ⟨kb, hkw, hkt⟩ := hkb
    have HKT := Lib.hid hkt; clear hkt
    have HKW := Lib.hid hkw; clear hkw
    have HF := Lib.hid hf; clear hf
    have HH := Lib.hid h; clear h
    have HW0 := Lib.hid hw0; clear hw0
    have HBS := Lib.hid hbs; clear hbs
    have HRL := Lib.hid hrl; clear hrl
    have HL := Lib.hid hl; clear hl
    go_enter Try.func28, Try.ntmps28
    go_wp2_with fail
    go_cut [5] from 4 to 15 (fun x wc => x = .pointer (some ⟨ob, 0, none⟩) ∧ Hid (Behind w0 w wc lo ob (bs ++ [kb]) k n s (.slice p l.length cap)))
    case first =>
      go_region_law (refine step_push rfl _ _ rfl lo ob ov bs (by first | exact (HO.out.alloc _).alloc _ | exact ((HO.out.alloc _).alloc _).drewN _ | exact ((HO.out.drewN _).alloc _).alloc _) rfl _ _ rfl kb (by simp [go_sem, bv]; exact HKW.out) (by assumption) ?_; intro g cap' w5 hown hgrow hat hne k0 kf)
      all_goals
        go_wp2_with fail
        go_meet
        refine ⟨rfl, Lib.hid ?_⟩
        exact behind_of hlo HW0.out HO.out (by first | exact (Below.refl _ _).alloc (by simp) _ | exact ((Below.refl _ _).alloc (by simp) _).drew | exact ((Below.refl _ _).alloc (by simp) _).drew.drew) hgrow hown rfl
    case rest =>
      obtain ⟨rfl, hcut⟩ := hcut
      obtain ⟨hb1, hb2, ⟨v1, ho1⟩, b0, d0, d1, d2, d3⟩ := hcut.out
      have HB1 := Lib.hid hb1
      have HB2 := Lib.hid hb2
      have HO1 := Lib.hid ho1
      have f2 := ho1.c2
      have f3 := ho1.c3
      have f4 := ho1.c4
      have hoblt2 := ho1.lt
      clear hcut hb1 hb2 ho1
      have HE : Hid (bs ++ [kb] ++ (enc (.mk k n s l)).tail = bs ++ enc (.mk k n s l)) := Lib.hid (by rw [List.append_assoc, List.singleton_append, ← HKT.out])
      have hbl : (bs ++ [kb]).length + (enc (.mk k n s l)).tail.length ≤ 1000000000000 := by
        have := congrArg List.length HE.out
        have h2 := HBS.out
        simp only [List.length_append] at this ⊢
        omega
      rcases formed_kind HF.out with rfl | rfl | rfl
      · have et : (enc (.mk 1 n s l)).tail = num (uns n) := by rw [enc, if_pos rfl]; rfl
        rw [et] at hbl HE
        have hbl1 : (bs ++ [kb]).length ≤ 1000000000000 := by omega
        go_wp2_with fail
        go_region_law (go_simp; go_at_call 41; refine (writeInt_any 1 n s _ hfit _ lo ob v1 _ (by first | exact HO1.out | exact HO1.out.drewN _ | exact HO1.out.drew | exact HO1.out.drew.drew) (by assumption)).mono ?_; rintro e w' ⟨rfl, g2, g3⟩)
        all_goals
          go_wp2_with fail
          go_end0
          exact ⟨rfl, HB2.out.trans ⟨g2.os, g2.tape, g2.output, g2.size, g2.block⟩, by rw [← HE.out]; exact g3⟩
      · have et : (enc (.mk 2 n s l)).tail = num s.size ++ s.data.toList := by rw [enc, if_neg (by decide), if_pos rfl]; rfl
        rw [et] at hbl HE
        have hbl1 : (bs ++ [kb]).length ≤ 1000000000000 := by omega
        have hsz : s.size ≤ 1000000000000 := by
          have : s.data.toList.length = s.size := by rw [Array.length_toList]; rfl
          rw [show (num s.size ++ s.data.toList).length = (num s.size).length + s.data.toList.length from List.length_append, this] at hbl
          omega
        clear hbl
        go_wp2_with fail
        go_region_law (go_simp; go_at_call 42; refine (writeText_any 2 n s _ (by assumption) _ lo ob v1 _ (by first | exact HO1.out | exact HO1.out.drewN _ | exact HO1.out.drew | exact HO1.out.drew.drew) (by assumption)).mono ?_; rintro e w' ⟨rfl, g2, g3⟩)
        all_goals
          go_wp2_with fail
          go_end0
          exact ⟨rfl, HB2.out.trans ⟨g2.os, g2.tape, g2.output, g2.size, g2.block⟩, by rw [← HE.out]; exact g3⟩
      · have et : (enc (.mk 3 n s l)).tail = num l.length ++ encL l := by rw [enc, if_neg (by decide), if_neg (by decide)]; rfl
        have hfl : ∀ x ∈ l, formed x = true := ((formed_list _ _ _).1 HF.out).2.2
        rw [et] at hbl HE
        rw [show (num l.length ++ encL l).length = (num l.length).length + (encL l).length from List.length_append] at hbl
        have HBL := Lib.hid hbl; clear hbl
        have HFL := Lib.hid hfl; clear hfl
        go_wp2_with fail
        go_region_law (go_simp; go_at_call 43; refine (writeList_any ih 3 n s l HRL.out HFL.out w0 B p cap HL.out _ lo ob v1 _ hlo (by first | exact HB1.out | exact below_drewN HB1.out _ | exact HB1.out.drew | exact HB1.out.drew.drew) (by first | exact HO1.out | exact HO1.out.drewN _ | exact HO1.out.drew | exact HO1.out.drew.drew) HBL.out).mono ?_; rintro e w' ⟨rfl, g2, g3⟩)
        all_goals
          go_wp2_with fail
          go_end0
          exact ⟨rfl, HB2.out.trans ⟨g2.os, g2.tape, g2.output, g2.size, g2.block⟩, by rw [← HE.out]; exact g3⟩
end Go.Proofs.Ytopkpdaingmmeaa
