/- Shift. -/
import Derived.Test.YtdennlekjndfkaaMeet
import Derived.Test.YtdennlekjndfkaaRefH
namespace Go.Proofs.Ytdennlekjndfkaa
open Go.RowKit

/-- The slice reads as l, and may be written. -/
def MutL (w : World) (B : Nat) (p : Option Addr) (l : List Sp) : Prop := l ≠ [] → ∃ b off, p = some ⟨b, off, none⟩ ∧ B ≤ b ∧ b < w.heap.size ∧ HoldsL w b off l
theorem Mut.mutL {w : World} {B : Nat} {p : Option Addr} {l : List Sp} (h : Mut w B p l) : MutL w B p l := fun hne => by
  obtain ⟨b, off, h1, h2, h3, h4⟩ := h.at' hne
  exact ⟨b, off, h1, h2, h3, HoldsL.of h4⟩
theorem MutL.spAt {w : World} {B : Nat} {p : Option Addr} {l : List Sp} (h : MutL w B p l) (hf : ∀ s ∈ l, FitSp s) (hl : l.length ≤ 8796093022207) : SpAt w B p l := by
  refine ⟨hf, hl, fun hne => ?_⟩
  obtain ⟨b, off, h1, h2, h3, h4⟩ := h hne
  exact ⟨b, off, h1, h2, h3, fun i hi => (h4 i hi).1⟩
theorem HoldsL.alloc {w : World} {b off : Nat} {l : List Sp} (h : HoldsL w b off l) (hb : b < w.heap.size) (u : Obj) : HoldsL (w.alloc u) b off l := fun i hi => by
  obtain ⟨⟨h1, h2⟩, h3, h4⟩ := h i hi
  have e : (w.alloc u).heap[b]? = w.heap[b]? := Below.heap_alloc _ _ _ hb
  refine ⟨⟨later3 hb h1, later3 hb h2⟩, ?_, ?_⟩
  · unfold World.frozen? at h3 ⊢; rw [e]; exact h3
  · unfold World.frozen? at h4 ⊢; rw [e]; exact h4

/-- The state of Shift's loop: the first k spans are moved. -/
structure ShSt (X : List Sp) (t : Int) (k : Nat) (cur : List Sp) : Prop where
  len : cur.length = X.length
  done : cur.take k = shL (X.take k) t
  rest : cur.drop k = X.drop k
  ok : shOk (X.take k) t = true
theorem ShSt.start (X : List Sp) (t : Int) : ShSt X t 0 X := ⟨rfl, rfl, rfl, rfl⟩
theorem ShSt.at {X cur : List Sp} {t : Int} {k : Nat} (h : ShSt X t k cur) (hk : k < X.length) : cur[k]'(by rw [h.len]; exact hk) = X[k] := by
  have e := h.rest
  rw [List.drop_eq_getElem_cons (by rw [h.len]; exact hk), List.drop_eq_getElem_cons hk] at e
  exact (List.cons.inj e).1
theorem ShSt.next {X cur : List Sp} {t : Int} {k : Nat} (h : ShSt X t k cur) (hk : k < X.length) (ho : okSp (X[k].1 + t, X[k].2 + t) = true) : ShSt X t (k + 1) (cur.set k (X[k].1 + t, X[k].2 + t)) := by
  have hk' : k < cur.length := by rw [h.len]; exact hk
  refine ⟨by rw [List.length_set, h.len], ?_, ?_, shOk_take X t k hk h.ok ho⟩
  · rw [take_set_self cur k _ hk', h.done, shL_take X t k hk]
  · have e := h.rest
    rw [List.drop_eq_getElem_cons hk', List.drop_eq_getElem_cons hk] at e
    rw [List.drop_set_of_lt (by omega)]
    exact (List.cons.inj e).2

set_option maxRecDepth 100000 in
set_option maxHeartbeats 2000000 in
theorem shift_any (p : Option Addr) (cap : Nat) (l : List Sp) (t : Int) (ht : -9223372036854775808 ≤ t ∧ t ≤ 9223372036854775807) (w : World) (B : Nat) (hl : SpAt w B p l) :
    Calls Try.prog 26 #[.slice p l.length cap, .int .i64 t] w (Res w (shiftS l t) (shiftE l t)) := by
  by_cases h : errL l = 0
  · have HXO := Lib.hid (canon_okSp l (errL_all h).2)
    have HXB := Lib.hid (canon_bd _ (errL_bd h))
    have hxl : (canon l).length ≤ 4096 := Nat.le_trans (canon_len _ (errL_bd h)) (errL_all h).1
    have HOK := Lib.hid (fun h2 => shift_ok (b := t) h h2)
    have HBAD := Lib.hid (fun h2 => shift_bad (b := t) h h2)
    have HC := Lib.hid (set_any p cap l w B hl)
    rw [setS_ok h, h] at HC
    clear h hl
    generalize canon l = X at *
    go_enter Try.func26, Try.ntmps26
    go_wp2_with fail
    refine HC.out.mono ?_
    rintro e w1 ⟨v, rfl, hown, _, _, hb1⟩
    obtain ⟨q, c, rfl, hmut, hqn, _⟩ := hown.mut (fit_of_bd HXB.out) (by omega)
    have HM := Lib.hid hmut.mutL
    have HB := Lib.hid hb1
    clear hb1 hmut hown HC
    go_wp2_with fail
    go_loopw [4, 5, 18] (fun v4 v5 i wr => ∃ (k : Nat) (cur : List Sp), k ≤ X.length ∧ v4 = .slice q X.length c ∧ v5 = .int .i64 0 ∧ i = .int .i64 k ∧ Hid (ShSt X t k cur) ∧ Hid (MutL wr w.heap.size q cur) ∧ Hid (Below w.heap.size w wr)) (fun _ _ i _ => X.length - (intOf i).toNat)
    case atStart => exact ⟨0, X, Nat.zero_le _, rfl, rfl, by go_num, ShSt.start X t, HM, HB⟩
    case round =>
      obtain ⟨k, cur, hk, rfl, rfl, rfl, HS, HL, HB2⟩ := hrel
      by_cases hlt : k < X.length
      · have hlc : k < cur.length := by rw [HS.out.len]; exact hlt
        have hx := HXO.out X[k] (List.getElem_mem hlt)
        rw [okSp_iff] at hx
        obtain ⟨b, off, rfl, hbB, hbs, hc⟩ := HL.out (by rintro rfl; simp at hlc)
        obtain ⟨⟨c1, c2⟩, f1, f2⟩ := hc k hlc
        have HAT := HS.out.at hlt
        rw [HAT] at c1 c2
        have HNX := Lib.hid (HS.out.next hlt)
        have HNO := Lib.hid (shOk_no X t k hlt)
        have HC2 := Lib.hid hc
        clear hc HAT HL
        generalize X[k] = x at *
        by_cases h1 : t < -70368744177664 - x.1
        · have HF := Lib.hid (HBAD.out (HNO.out ((okSp_no _).2 (by dsimp only; omega))))
          go_wp2_with fail
          go_ret2
          exact ⟨none, 0, by rw [HF.out.1, HF.out.2]; rfl, by rw [HF.out.2]; exact SpAt.nil, fun _ => rfl, HB2.out.alloc HB2.out.size _⟩
        by_cases h2 : 70368744177664 - x.2 < t
        · have HF := Lib.hid (HBAD.out (HNO.out ((okSp_no _).2 (by dsimp only; omega))))
          go_wp2_with fail
          go_ret2
          exact ⟨none, 0, by rw [HF.out.1, HF.out.2]; rfl, by rw [HF.out.2]; exact SpAt.nil, fun _ => rfl, HB2.out.alloc HB2.out.size _⟩
        have HO := Lib.hid (HNX.out ((okSp_iff _).2 (by dsimp only; omega)))
        go_wp2_with fail
        go_roundw
        case rel =>
          refine ⟨k + 1, cur.set k (x.1 + t, x.2 + t), by omega, rfl, rfl, by go_num, HO.out, fun _ => ⟨b, off, rfl, hbB, by simp; omega, (HC2.out.set k hlc (x.1 + t, x.2 + t)).alloc (by simpa using hbs) _⟩, ?_⟩
          exact ((HB2.out.setCell (p := ⟨b, off + k * 2, none⟩) hbB _).setCell (p := ⟨b, off + k * 2 + 1, none⟩) hbB _).alloc (by have := HB2.out.size; simpa using this) _
        case measure => simp [intOf]; omega
      · have HOKX : Hid (shOk X t = true) := by have := HS.out.ok; rwa [List.take_of_length_le (by omega)] at this
        have HF := Lib.hid (HOK.out HOKX.out)
        have HD : Hid (cur = shL X t) := by
          have := HS.out.done
          rwa [List.take_of_length_le (by rw [HS.out.len]; omega), List.take_of_length_le (by omega)] at this
        go_wp2_with fail
        go_ret2
        exact ⟨q, c, by rw [HF.out.1, HF.out.2]; unfold shL; rw [List.length_map]; rfl, by rw [HF.out.2, ← HD.out]; exact HL.out.spAt (by rw [HD.out]; intro s hs; unfold shL at hs; obtain ⟨y, hy, rfl⟩ := List.mem_map.1 hs; have h3 := HOKX.out; unfold shOk at h3; exact (Bd.ok (List.all_eq_true.1 h3 y hy)).fit) (by rw [HS.out.len]; omega), hqn, HB2.out⟩
  · have HF := Lib.hid (shift_err (b := t) h)
    have HC := Lib.hid (set_bad p cap l w B hl h)
    have h2 : (errL l != 0) = true := by simpa using h
    generalize hE : errL l = er at *
    clear hE h
    go_enter Try.func26, Try.ntmps26
    go_wp2_with fail
    refine HC.out.mono ?_
    rintro e w1 ⟨q, c, rfl, _, _, hb1⟩
    have HB := Lib.hid hb1
    clear hb1
    go_wp2_with fail
    go_ret2
    exact ⟨none, 0, by rw [HF.out.1, HF.out.2]; rfl, by rw [HF.out.2]; exact SpAt.nil, fun _ => rfl, HB.out⟩
end Go.Proofs.Ytdennlekjndfkaa
