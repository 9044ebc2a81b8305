/- The program's Tokens. -/
import Derived.Test.YtdhdjfkknfbmhaaGreatDoorKNext2
import Derived.Test.YtdhdjfkknfbmhaaGreatDoorKSkip
import Derived.Test.YtdhdjfkknfbmhaaGreatDoorKRow
import Derived.Deep.DeepCutAuto
import Derived.Deep.RegionLaw
namespace Go.Proofs.YtdhdjfkknfbmhaaGreatDoor
open Go.RowKit

theorem next_any (w : World) (hG : Gl w) (sb rb : Nat) (l : Bs) (at' br : Nat) (h : Src w sb rb l at' br) (c : UInt8) (r : Bs) (hr : l.drop at' = c :: r) (hBr : Barr l at' br) :
    Calls Tryz.prog 27 #[.pointer (some ⟨sb, 0, none⟩)] w (QPost w sb rb l at' (tok (c :: r))) := by
  by_cases h0 : isL c = true
  · exact next1_any w hG sb rb l at' br h c r hr hBr h0
  have h0 : isL c = false := by simpa using h0
  have hbn : bNum (c :: r) = true ↔ (isD c = true ∨ (c = 45 ∧ isD (r.headD 0) = true)) := by
    unfold bNum
    simp only [List.headD_cons, List.tail_cons, Bool.or_eq_true, Bool.and_eq_true, beq_iff_eq]
  by_cases h1 : isD c = true ∨ (c = 45 ∧ isD (r.headD 0) = true)
  · exact next2_any w hG sb rb l at' br h c r hr hBr h0 (hbn.2 h1) (Lib.hid h1)
  have hb1 : bNum (c :: r) = false := by
    cases hb : bNum (c :: r) with
    | false => rfl
    | true => exact absurd (hbn.1 hb) h1
  by_cases h2 : c = 34
  · exact next3_any w hG sb rb l at' br h c r hr hBr h0 hb1 (Lib.hid h1) (by simp [h2]) (Lib.hid h2)
  by_cases h3 : sgn (c :: r) ≠ []
  · exact next4_any w hG sb rb l at' br h c r hr hBr h0 hb1 (Lib.hid h1) (by simp [h2]) (Lib.hid h2) (decide_eq_true h3) (Lib.hid h3)
  · exact next5_any w hG sb rb l at' br h c r hr hBr h0 hb1 (Lib.hid h1) (by simp [h2]) (Lib.hid h2) (decide_eq_false h3) (Lib.hid h3)

/-- As lex, what is skipped being skipped. -/
def lexS : Nat → Bs → Nat → Int → Nat → List Tk × List Nat
  | f, r, p, e, m =>
    if r = [] then ([⟨6, [], p⟩], [])
    else if (tok r).1 = 0 then
      (if (p : Int) ≠ e ∧ m < 64 then
        ((lex f (r.drop (tok r).2.2) (p + (tok r).2.2) ((p + (tok r).2.2 : Nat) : Int) (m + 1)).1, p :: (lex f (r.drop (tok r).2.2) (p + (tok r).2.2) ((p + (tok r).2.2 : Nat) : Int) (m + 1)).2)
      else lex f (r.drop (tok r).2.2) (p + (tok r).2.2) ((p + (tok r).2.2 : Nat) : Int) m)
    else (⟨(tok r).1, (tok r).2.1, p⟩ :: (lex f (r.drop (tok r).2.2) (p + (tok r).2.2) e m).1, (lex f (r.drop (tok r).2.2) (p + (tok r).2.2) e m).2)
theorem lex_S (f : Nat) (r : Bs) (p : Nat) (e : Int) (m : Nat) : lex (f + 1) r p e m = lexS f (skp false r) (p + (r.length - (skp false r).length)) e m := rfl
/-- The offset behind what is skipped from q on. -/
def skq (l : Bs) (q : Nat) : Nat := l.length - (skp false (l.drop q)).length
theorem skq_le (l : Bs) (q : Nat) (hq : q ≤ l.length) : q ≤ skq l q ∧ skq l q ≤ l.length := by
  have := skp_len false (l.drop q)
  rw [List.length_drop] at this
  unfold skq; omega
theorem skq_drop (l : Bs) (q : Nat) (hq : q ≤ l.length) : skp false (l.drop q) = l.drop (skq l q) := by
  have h := skp_drop false (l.drop q)
  have := skp_len false (l.drop q)
  rw [List.length_drop] at this h
  rw [h, List.drop_drop]
  congr 1
  unfold skq
  omega
theorem lex_at (f : Nat) (l : Bs) (q : Nat) (hq : q ≤ l.length) (e : Int) (m : Nat) : lex (f + 1) (l.drop q) q e m = lexS f (l.drop (skq l q)) (skq l q) e m := by
  rw [lex_S, ← skq_drop l q hq]
  congr 1
  have := skp_len false (l.drop q)
  rw [List.length_drop] at this
  rw [List.length_drop]
  unfold skq
  omega
def rdObj : Obj := .cells #[fnV 46, fnV 47, fnV 48, fnV 49, fnV 50, fnV 51, fnV 52, fnV 53] 121
theorem readers_any (w : World) : Calls Tryz.prog 25 #[] w fun e w' => e = .returned (.slice (some ⟨w.heap.size, 0, none⟩) 4 4) ∧ w' = w.alloc rdObj := by
  go_enter Tryz.func25, Tryz.ntmps25
  go_wp2_with fail
  go_ret
  exact ⟨rfl, rfl⟩

/-- A row of bytes lies in memory, its block from B on. -/
structure BAt (w : World) (B : Nat) (p : Option Addr) (l : Bs) : Prop where
  at' : l ≠ [] → ∃ b off, p = some ⟨b, off, none⟩ ∧ B ≤ b ∧ b < w.heap.size ∧ ∀ i (h : i < l.length), w.cell? ⟨b, off + i, none⟩ = some (.int .u8 l[i].toNat)
theorem BAt.bel {w w' : World} {B m : Nat} {p : Option Addr} {l : Bs} (h : BAt w B p l) (hb : Below m w w') (hm : w.heap.size ≤ m) : BAt w' B p l :=
  ⟨fun hl => by
    obtain ⟨b, off, h1, h2, h3, h4⟩ := h.at' hl
    exact ⟨b, off, h1, h2, Nat.lt_of_lt_of_le h3 hb.size, fun i hi => (hb.cell (p := ⟨b, _, none⟩) (show b < m by omega)).trans (h4 i hi)⟩⟩
set_option maxRecDepth 100000 in
theorem BAt.str {w : World} {B : Nat} {p : Option Addr} {l : Bs} (h : BAt w B p l) (c : Nat) : (convert 22 9 (.slice p l.length c)).run Tryz.prog w = .ok (.string (S l)) w := by
  by_cases hl : l = []
  · subst hl
    cases p with
    | none => exact run_convert_bytes_nil w _ _ Tryz.underlying22 Tryz.underlying5 _ _ 9 Tryz.underlying9
    | some a =>
      rw [run_convert_bytes_string w 22 9 5 _ _ _ Tryz.underlying22 Tryz.underlying5 Tryz.underlying9]
      exact run_bytesToString w a 0 c [] (by simp [loadCells, loadCellsFrom, Sem.run_pure])
  · obtain ⟨b, off, rfl, _, _, hc⟩ := h.at' hl
    have := run_convert_bytes_arg w 22 5 Tryz.underlying22 Tryz.underlying5 b off l.length c (l.map fun x => (x.toNat : Int)) (by simp) (fun i hi => by rw [hc i hi]; simp [List.getD, List.getElem?_eq_getElem hi]) 9 Tryz.underlying9
    rw [this]
    congr 2
    simp [strOfNums, Function.comp_def, S]

theorem Src.of {w : World} {sb rb : Nat} {l : Bs} (hl : l.length ≤ 80000) (h9 : 12 ≤ sb) (hne : rb ≠ sb)
    (hs : w.heap[sb]? = some (.cells #[.string (S l), .slice (some ⟨rb, 0, none⟩) 4 4, .int .i64 0, .int .i64 0] 77)) (hr : w.heap[rb]? = some rdObj) : Src w sb rb l 0 0 := by
  have lt : sb < w.heap.size := (Array.getElem?_eq_some_iff.1 hs).1
  have rlt : rb < w.heap.size := (Array.getElem?_eq_some_iff.1 hr).1
  refine ⟨lt, rlt, hne, h9, fun o => by simp [World.frozen?, hs], ?_, ?_, ?_, ?_, fun i hi => ?_, Nat.zero_le _, hl, by omega⟩
  · rw [cell_of_row w sb 0 _ _ (0, 0) hs]; rfl
  · rw [cell_of_row w sb 1 _ _ (0, 0) hs]; rfl
  · rw [cell_of_row w sb 2 _ _ (0, 0) hs]; rfl
  · rw [cell_of_row w sb 3 _ _ (0, 0) hs]; rfl
  · rw [cell_of_row w rb i _ _ (0, 0) hr]
    match i, hi with
    | 0, _ => rfl
    | 1, _ => rfl
    | 2, _ => rfl
    | 3, _ => rfl
    | 4, _ => rfl
    | 5, _ => rfl
    | 6, _ => rfl
    | 7, _ => rfl
    | i + 8, hi => omega
def srcObj (l : Bs) (rb : Nat) : Obj := .cells #[.string (S l), .slice (some ⟨rb, 0, none⟩) 4 4, .int .i64 0, .int .i64 0] 77
theorem Src.new1 {w : World} (h9 : 12 ≤ w.heap.size) (l : Bs) (hl : l.length ≤ 80000) : Src ((w.alloc rdObj).alloc (srcObj l w.heap.size)) (w.heap.size + 1) w.heap.size l 0 0 :=
  Src.of hl (by omega) (by omega) (by have := heap_alloc_new (w.alloc rdObj) (srcObj l w.heap.size); rw [World.size_alloc] at this; exact this) (by rw [heap_alloc_old _ _ (show w.heap.size < _ by simp)]; exact heap_alloc_new w rdObj)
theorem Src.new2 {w : World} (h9 : 12 ≤ w.heap.size) (l : Bs) (hl : l.length ≤ 80000) : Src ((w.alloc (srcObj l (w.heap.size + 1))).alloc rdObj) w.heap.size (w.heap.size + 1) l 0 0 :=
  Src.of hl h9 (by omega) (by rw [heap_alloc_old _ _ (show w.heap.size < _ by simp)]; exact heap_alloc_new w _) (by have := heap_alloc_new (w.alloc (srcObj l (w.heap.size + 1))) rdObj; rw [World.size_alloc] at this; exact this)
theorem Src.blocks {w w' : World} {sb rb : Nat} {l : Bs} {at' br : Nat} (h : Src w sb rb l at' br) (hsz : w.heap.size ≤ w'.heap.size) (h1 : w'.heap[sb]? = w.heap[sb]?) (h2 : w'.heap[rb]? = w.heap[rb]?) : Src w' sb rb l at' br := by
  have hc := fun o => World.cell?_of_block (a := ⟨sb, o, none⟩) h1
  have hr := fun o => World.cell?_of_block (a := ⟨rb, o, none⟩) h2
  exact ⟨Nat.lt_of_lt_of_le h.lt hsz, Nat.lt_of_lt_of_le h.rlt hsz, h.ne, h.h9, fun o => (World.frozen?_of_block (a := ⟨sb, o, none⟩) h1).trans (h.fz o), (hc 0).trans h.c0, (hc 1).trans h.c1, (hc 2).trans h.c2, (hc 3).trans h.c3, fun i hi => (hr i).trans (h.rd i hi), h.le, h.len, h.brl⟩
/-- The two rows of the call's own, apart from each other and from the source. -/
structure Rows (w wr : World) (sb rb : Nat) (v2 v3 : Value) (L : List Tk) (P : List Nat) : Prop where
  t : TRow wr w.heap.size v2 (L.map Tk.tok)
  p : PRow wr w.heap.size v3 P
  st : ∀ k, v2.ownBlock = some k → k ≠ sb ∧ k ≠ rb ∧ v3.ownBlock ≠ some k
  sp : ∀ k, v3.ownBlock = some k → k ≠ sb ∧ k ≠ rb
  b : Below w.heap.size w wr
theorem Rows.nil {w wr : World} {sb rb : Nat} (h : Below w.heap.size w wr) : Rows w wr sb rb (.slice none 0 0) (.slice none 0 0) [] [] :=
  ⟨⟨rfl, Or.inl ⟨rfl, rfl⟩⟩, ⟨rfl, Or.inl ⟨rfl, rfl⟩⟩, fun k hk => by simp [Value.ownBlock] at hk, fun k hk => by simp [Value.ownBlock] at hk, h⟩
theorem Rows.kp {w wr w' : World} {sb rb : Nat} {v2 v3 : Value} {L : List Tk} {P : List Nat} (h : Rows w wr sb rb v2 v3 L P) (hk : Kp wr w' sb) (hsb : w.heap.size ≤ sb) : Rows w w' sb rb v2 v3 L P :=
  ⟨own_same h.t fun k hk' => hk.block k (own_rows h.t k hk').2 (h.st k hk').1, own_same h.p fun k hk' => hk.block k (own_rows h.p k hk').2 (h.sp k hk').1, h.st, h.sp, h.b.trans (hk.below hsb h.b.size)⟩
theorem Rows.alloc {w wr : World} {sb rb : Nat} {v2 v3 : Value} {L : List Tk} {P : List Nat} (h : Rows w wr sb rb v2 v3 L P) (hsb : w.heap.size ≤ sb) (o : Obj) : Rows w (wr.alloc o) sb rb v2 v3 L P := h.kp ((Kp.refl _ _).alloc o) hsb
theorem Rows.drew {w wr : World} {sb rb : Nat} {v2 v3 : Value} {L : List Tk} {P : List Nat} (h : Rows w wr sb rb v2 v3 L P) (hsb : w.heap.size ≤ sb) : Rows w wr.drew sb rb v2 v3 L P := h.kp (Kp.refl _ _).drew hsb
theorem Rows.pushT {w wr w' : World} {sb rb at' br : Nat} {l : Bs} {v2 v3 v : Value} {L : List Tk} {P : List Nat} (h : Rows w wr sb rb v2 v3 L P) (hs : Src wr sb rb l at' br) (x : Tk)
    (h1 : TRow w' w.heap.size v (L.map Tk.tok ++ [x.tok])) (hg : wr.grownBy w' v2.ownBlock) (ho : ∀ k, v.ownBlock = some k → some k = v2.ownBlock ∨ wr.heap.size ≤ k) :
    Rows w w' sb rb v v3 (L ++ [x]) P ∧ Src w' sb rb l at' br := by
  refine ⟨⟨by rw [List.map_append]; exact h1, own_same h.p fun k hk => hg.block k (own_rows h.p k hk).2 (fun e => (h.st k e.symm).2.2 hk), fun k hk => ?_, h.sp, h.b.grown hg h.b.size fun k hk => (own_rows h.t k hk).1⟩, hs.blocks hg.size (hg.block sb hs.lt fun e => (h.st sb e.symm).1 rfl) (hg.block rb hs.rlt fun e => (h.st rb e.symm).2.1 rfl)⟩
  rcases ho k hk with e | e
  · exact h.st k e.symm
  · have a := hs.lt
    have b := hs.rlt
    exact ⟨by omega, by omega, fun h3 => by have := (own_rows h.p k h3).2; omega⟩
theorem Rows.pushP {w wr w' : World} {sb rb at' br : Nat} {l : Bs} {v2 v3 v : Value} {L : List Tk} {P : List Nat} (h : Rows w wr sb rb v2 v3 L P) (hs : Src wr sb rb l at' br) (x : Nat)
    (h1 : PRow w' w.heap.size v (P ++ [x])) (hg : wr.grownBy w' v3.ownBlock) (ho : ∀ k, v.ownBlock = some k → some k = v3.ownBlock ∨ wr.heap.size ≤ k) :
    Rows w w' sb rb v2 v L (P ++ [x]) ∧ Src w' sb rb l at' br := by
  refine ⟨⟨own_same h.t fun k hk => hg.block k (own_rows h.t k hk).2 (fun e => (h.st k hk).2.2 e.symm), h1, fun k hk => ?_, fun k hk => ?_, h.b.grown hg h.b.size fun k hk => (own_rows h.p k hk).1⟩, hs.blocks hg.size (hg.block sb hs.lt fun e => (h.sp sb e.symm).1 rfl) (hg.block rb hs.rlt fun e => (h.sp rb e.symm).2 rfl)⟩
  · refine ⟨(h.st k hk).1, (h.st k hk).2.1, fun h3 => ?_⟩
    rcases ho k h3 with e | e
    · exact (h.st k hk).2.2 e.symm
    · have := (own_rows h.t k hk).2; omega
  · rcases ho k hk with e | e
    · exact h.sp k e.symm
    · have a := hs.lt
      have b := hs.rlt
      exact ⟨by omega, by omega⟩
/-- What the tokens of l are, from offset p on. -/
def Left (l : Bs) (p : Nat) (e : Int) (L : List Tk) (P : List Nat) : Prop := ∃ f, l.length - p ≤ f ∧ tokens l = (L ++ (lexS f (l.drop p) p e P.length).1, P ++ (lexS f (l.drop p) p e P.length).2)
theorem Left.start (l : Bs) : Left l (skq l 0) (-1) [] [] := by
  refine ⟨l.length, by omega, ?_⟩
  have := lex_at l.length l 0 (Nat.zero_le _) (-1) 0
  rw [List.drop_zero] at this
  simp only [List.nil_append, List.length_nil, ← this]
  rfl
theorem Left.end_ {l : Bs} {p : Nat} {e : Int} {L : List Tk} {P : List Nat} (h : Left l p e L P) (hp : l.length ≤ p) : tokens l = (L ++ [⟨6, [], p⟩], P) := by
  obtain ⟨f, _, h2⟩ := h
  rw [h2, List.drop_of_length_le hp]
  simp [lexS]
theorem Left.step {l : Bs} {p : Nat} {e : Int} {L : List Tk} {P : List Nat} (h : Left l p e L P) (hp : p < l.length) :
    ((tok (l.drop p)).1 ≠ 0 → Left l (skq l (p + (tok (l.drop p)).2.2)) e (L ++ [⟨(tok (l.drop p)).1, (tok (l.drop p)).2.1, p⟩]) P) ∧
    ((tok (l.drop p)).1 = 0 → (p : Int) ≠ e → P.length < 64 → Left l (skq l (p + (tok (l.drop p)).2.2)) ((p + (tok (l.drop p)).2.2 : Nat) : Int) L (P ++ [p])) ∧
    ((tok (l.drop p)).1 = 0 → ¬ ((p : Int) ≠ e ∧ P.length < 64) → Left l (skq l (p + (tok (l.drop p)).2.2)) ((p + (tok (l.drop p)).2.2 : Nat) : Int) L P) := by
  obtain ⟨f, h1, h2⟩ := h
  have hne : l.drop p ≠ [] := by
    intro h
    have := congrArg List.length h
    rw [List.length_drop, List.length_nil] at this
    omega
  have ht := tok_le hne
  rw [List.length_drop] at ht
  generalize hq : tok (l.drop p) = q at *
  obtain ⟨k, t, n⟩ := q
  dsimp only at ht ⊢
  have hq2 := skq_le l (p + n) (by omega)
  obtain ⟨f, rfl⟩ : ∃ f', f = f' + 1 := ⟨f - 1, by omega⟩
  have hdd : (l.drop p).drop n = l.drop (p + n) := by rw [List.drop_drop]
  simp only [lexS, if_neg hne, hq] at h2
  rw [hdd] at h2
  simp only [lex_at f l (p + n) (by omega)] at h2
  refine ⟨fun hk => ⟨f, by omega, ?_⟩, fun hk he hm => ⟨f, by omega, ?_⟩, fun hk he => ⟨f, by omega, ?_⟩⟩
  · rw [h2, if_neg hk]; simp
  · rw [h2, if_pos hk, if_pos ⟨he, hm⟩]; simp
  · rw [h2, if_pos hk, if_neg he]
theorem heldC {w w1 : World} {f : World → Prop} (H : Hid (∀ w1, Below w.heap.size w w1 → f w1)) (hb : Below w.heap.size w w1) : f w1 ∧ Hid (Below w.heap.size w w1) := ⟨H.out _ hb, Lib.hid hb⟩
theorem heldCB {w w1 : World} {q : Prop} (h : q ∧ Hid (Below w.heap.size w w1)) : Below w.heap.size w w1 := h.2.out
theorem bel_alloc {w w1 : World} (h : Below w.heap.size w w1) (o : Obj) : Below w.heap.size w (w1.alloc o) := h.alloc h.size o

set_option maxHeartbeats 4000000 in
set_option maxRecDepth 100000 in
theorem tokens_any (l : Bs) (hl : l.length ≤ 80000) (w : World) (hG : Gl w) (B : Nat) (p : Option Addr) (cap : Nat) (hp : BAt w B p l) :
    Calls Tryz.prog 10 #[.slice p l.length cap] w fun e w' => Below w.heap.size w w' ∧
      if 65536 < l.length then e = .returned (.tuple #[.slice none 0 0, .slice none 0 0, .int .i64 2])
      else ∃ v1 v2, e = .returned (.tuple #[v1, v2, .int .i64 0]) ∧ TRow w' w.heap.size v1 ((tokens l).1.map Tk.tok) ∧ PRow w' w.heap.size v2 (tokens l).2 := by
  by_cases hbig : 65536 < l.length
  · simp only [if_pos hbig]
    go_enter Tryz.func10, Tryz.ntmps10
    go_wp2_with fail
    go_ret3
    exact ⟨Below.refl _ _, rfl⟩
  · simp only [if_neg hbig]
    have hcv := hp.str cap
    have HCV : Hid (∀ w1, Below w.heap.size w w1 → (convert 22 9 (.slice p l.length cap)).run Tryz.prog w1 = .ok (.string (S l)) w1) := Lib.hid fun w1 hb => (hp.bel hb (Nat.le_refl _)).str cap
    clear hp
    have HG := Lib.hid hG
    have h9 := hG.size
    clear hG
    go_enter Tryz.func10, Tryz.ntmps10
    go_upto_region 3 with (fail)
    go_cut [5] from 11 to 14 (fun v wc => ∃ sb rb, v = .pointer (some ⟨sb, 0, none⟩) ∧ w.heap.size ≤ sb ∧ Hid (Src wc sb rb l 0 0) ∧ Hid (Below w.heap.size w wc))
    case first =>
      go_region_held3 (fun w' => (convert 22 9 (.slice p l.length cap)).run Tryz.prog w' = .ok (.string (S l)) w' ∧ Hid (Below w.heap.size w w')) (first | assumption | exact heldC HCV (Below.refl _ _).drew | exact heldC HCV (heldCB (by assumption)).drew | exact heldC HCV (bel_alloc (heldCB (by assumption)) _) | exact heldC HCV (bel_alloc (Below.refl _ _).drew _) | exact heldC HCV (bel_alloc (Below.refl _ _) _).drew | exact heldC HCV (bel_alloc (bel_alloc (Below.refl _ _) _) _).drew | exact heldC HCV (bel_alloc (bel_alloc (Below.refl _ _) _) _).drew.drew | exact heldC HCV (bel_alloc (bel_alloc (Below.refl _ _).drew _) _) | exact heldC HCV (bel_alloc (bel_alloc (Below.refl _ _).drew _) _).drew) ((go_at_call 25; refine (readers_any _).mono ?_; rintro e w' ⟨rfl, rfl⟩))
      all_goals (go_wp2_with fail; go_meet)
      · exact ⟨_, _, rfl, by omega, Lib.hid (Src.new1 h9 l hl).drew, Lib.hid (bel_alloc (bel_alloc (Below.refl _ _) _) _).drew⟩
      · exact ⟨_, _, rfl, by omega, Lib.hid (Src.new2 h9 l hl).drew, Lib.hid (bel_alloc (bel_alloc (Below.refl _ _) _) _).drew⟩
    case rest =>
      obtain ⟨sb, rb, rfl, hsb, HS, HB⟩ := hcut
      go_wp2_with fail
      go_at_call 26
      refine (skip_any _ (HG.out.bel' HB.out) sb rb l 0 0 HS.out).mono ?_
      rintro e w1 ⟨rfl, hs1, hk1⟩
      have HS1 := Lib.hid hs1
      have HR1 : Hid (Rows w w1 sb rb (.slice none 0 0) (.slice none 0 0) [] []) := Lib.hid ((Rows.nil HB.out).kp hk1 hsb)
      have HL1 := Lib.hid (Left.start l)
      clear hs1 hk1 HS HB
      change Hid (Src w1 sb rb l (skq l 0) 0) at HS1
      have hp1 := (skq_le l 0 (Nat.zero_le _)).2
      go_wp2_with fail
      go_loopw [2, 3, 6] (fun v2 v3 cv wr => ∃ (e : Int) (p br : Nat) (L : List Tk) (P : List Nat), cv = .int .i64 e ∧ -1 ≤ e ∧ e ≤ 80000 ∧ p ≤ l.length ∧ L.length ≤ p ∧ P.length ≤ 64 ∧ Hid (Src wr sb rb l p br) ∧ Hid (Barr l p br) ∧ Hid (Rows w wr sb rb v2 v3 L P) ∧ Hid (Left l p e L P)) (fun _ _ _ wr => l.length - atOf wr sb)
      case atStart => exact ⟨-1, skq l 0, 0, [], [], rfl, by omega, by omega, hp1, Nat.zero_le _, Nat.zero_le _, HS1, Lib.hid (fun i _ hi => absurd hi (Nat.not_lt_zero _)), HR1, HL1⟩
      case round =>
        obtain ⟨e, p, br, L, P, rfl, he1, he2, hp, hLp, hP, HSr, HBr, HRr, HLr⟩ := hrel
        obtain ⟨h1, h2, h3, h4, h5, h6, h7, h8, h9', h10, h11, h12, h13⟩ := HSr.out
        clear h10 h5
        have hsz := S_size l
        clear HS1 HR1 HL1 hp1 hcv HCV
        by_cases hlt : p < l.length
        · have hpi : (p : Int) < (l.length : Int) := by omega
          obtain ⟨c, r, hcr⟩ : ∃ c r, l.drop p = c :: r := ⟨_, _, (List.getElem_cons_drop hlt).symm⟩
          have HN : Hid (∀ w1, Below wr.heap.size wr w1 → Calls Tryz.prog 27 #[.pointer (some ⟨sb, 0, none⟩)] w1 (QPost w1 sb rb l p (tok (l.drop p)))) := Lib.hid fun w1 hb => by
            rw [hcr]
            exact next_any w1 ((HG.out.bel' HRr.out.b).bel' hb) sb rb l p br (HSr.out.bel hb (Nat.le_refl _)) c r hcr HBr.out
          have HST := Lib.hid (HLr.out.step hlt)
          have htl := tok_le (r := l.drop p) (by rw [hcr]; simp)
          rw [List.length_drop] at htl
          clear hcr
          generalize tok (l.drop p) = q at *
          obtain ⟨k, t, n⟩ := q
          dsimp only at htl HST
          go_wp2_with fail
          refine (HN.out _ (Below.refl _ _)).mono ?_
          rintro e' w2 ⟨br', he', hs2, hb2, hk2⟩
          dsimp only [tokV] at he' hs2 hb2
          subst he'
          have HB2 := Lib.hid hb2
          have HR2 := Lib.hid (HRr.out.kp hk2 hsb)
          have HS2 := Lib.hid hs2
          have HGw := Lib.hid (HG.out.bel' HR2.out.b)
          have hwsz := HR2.out.b.size
          have hq2 := skq_le l (p + n) (by omega)
          have HME : Hid (l.length - skq l (p + n) < l.length - atOf wr sb) := Lib.hid (by rw [HSr.out.atOf]; omega)
          clear hs2 hb2 hk2 HN
          by_cases hk : k = 0
          · subst hk
            obtain ⟨pp, pc, rfl, _, hpc1, hpc2⟩ := HR2.out.p.reads
            have HR3 : Hid (Rows w (w2.alloc (.cells #[.int .i64 0, .string (S t), .int .i64 p] 57)) sb rb _ _ L P) := Lib.hid (HR2.out.alloc hsb _)
            have HS3 : Hid (Src (w2.alloc (.cells #[.int .i64 0, .string (S t), .int .i64 p] 57)) sb rb l (p + n) br') := Lib.hid (HS2.out.alloc _)
            have c2 := HS3.out.c2
            have hn : P.length ≤ 2000000000000 := by omega
            have hB3 : w.heap.size ≤ (w2.alloc (.cells #[.int .i64 0, .string (S t), .int .i64 p] 57)).heap.size := by simp; omega
            by_cases hpe : (p : Int) = e
            · have HL2 := Lib.hid (HST.out.2.2 rfl (fun h => h.1 hpe))
              have HR5 := HR3
              have HS5 := HS3
              have hbne : ((p : Int) != e) = false := by rw [hpe]; simp
              clear HST hpe
              go_wp2_with fail
              go_at_call 26
              refine (skip_any _ (HG.out.bel' HR5.out.b) sb rb l (p + n) br' HS5.out).mono ?_
              rintro e2 w4 ⟨rfl, hs4, hk4⟩
              have HS4 : Hid (Src w4 sb rb l (skq l (p + n)) br') := Lib.hid hs4
              have HR4 := Lib.hid (HR5.out.kp hk4 hsb)
              clear hs4 hk4
              go_wp2_with fail
              go_round
              case rel => exact ⟨((p + n : Nat) : Int), skq l (p + n), br', L, P, rfl, by omega, by omega, hq2.2, by omega, hP, HS4, Lib.hid (HB2.out.mono hq2.1), HR4, HL2⟩
              case measure => rw [HS4.out.atOf]; exact HME.out
            · by_cases hm : P.length < 64
              · have HL2 := Lib.hid (HST.out.2.1 rfl hpe hm)
                have hmi : (P.length : Int) < 64 := by omega
                have HPP : Hid (∀ v w', PRow w' w.heap.size v (P ++ [p]) → World.grownBy (w2.alloc (.cells #[.int .i64 0, .string (S t), .int .i64 p] 57)) w' (Value.ownBlock (.slice pp P.length pc)) → (∀ k, v.ownBlock = some k → some k = Value.ownBlock (.slice pp P.length pc) ∨ (w2.alloc (.cells #[.int .i64 0, .string (S t), .int .i64 p] 57)).heap.size ≤ k) → Rows w w' sb rb _ v L (P ++ [p]) ∧ Src w' sb rb l (p + n) br') := Lib.hid fun v w' hr hg ho => HR3.out.pushP HS3.out p hr hg ho
                clear HST
                go_wp2_with (refine wpList_pushP rfl _ _ rfl w.heap.size _ P HR3.out.p rfl p 1 (by show Value.slice (some ⟨w2.heap.size + 1, 0, none⟩) 1 1 = _; rw [World.size_alloc]) hn hB3 ?_; intro v w3 hr hg ho; have hpp := HPP.out _ _ hr hg ho; clear hr hg ho; have HR5 := Lib.hid hpp.1; have HS5 := Lib.hid hpp.2; have c2' := hpp.2.c2; clear hpp)
                go_at_call 26
                refine (skip_any _ (HG.out.bel' HR5.out.b) sb rb l (p + n) br' HS5.out).mono ?_
                rintro e2 w4 ⟨rfl, hs4, hk4⟩
                have HS4 : Hid (Src w4 sb rb l (skq l (p + n)) br') := Lib.hid hs4
                have HR4 := Lib.hid (HR5.out.kp hk4 hsb)
                clear hs4 hk4
                go_wp2_with fail
                go_round
                case rel => exact ⟨((p + n : Nat) : Int), skq l (p + n), br', L, P ++ [p], rfl, by omega, by omega, hq2.2, by omega, by simp; omega, HS4, Lib.hid (HB2.out.mono hq2.1), HR4, HL2⟩
                case measure => rw [HS4.out.atOf]; exact HME.out
              · have HL2 := Lib.hid (HST.out.2.2 rfl (fun h => hm h.2))
                have hmi : ¬ (P.length : Int) < 64 := by omega
                have HR5 := HR3
                have HS5 := HS3
                clear HST
                go_wp2_with fail
                go_at_call 26
                refine (skip_any _ (HG.out.bel' HR5.out.b) sb rb l (p + n) br' HS5.out).mono ?_
                rintro e2 w4 ⟨rfl, hs4, hk4⟩
                have HS4 : Hid (Src w4 sb rb l (skq l (p + n)) br') := Lib.hid hs4
                have HR4 := Lib.hid (HR5.out.kp hk4 hsb)
                clear hs4 hk4
                go_wp2_with fail
                go_round
                case rel => exact ⟨((p + n : Nat) : Int), skq l (p + n), br', L, P, rfl, by omega, by omega, hq2.2, by omega, hP, HS4, Lib.hid (HB2.out.mono hq2.1), HR4, HL2⟩
                case measure => rw [HS4.out.atOf]; exact HME.out
          · have HL2 := Lib.hid (HST.out.1 hk)
            clear HST
            have HR3 : Hid (Rows w (w2.alloc (.cells #[.int .i64 k, .string (S t), .int .i64 p] 57)) sb rb _ _ L P) := Lib.hid (HR2.out.alloc hsb _)
            have HS3 : Hid (Src (w2.alloc (.cells #[.int .i64 k, .string (S t), .int .i64 p] 57)) sb rb l (p + n) br') := Lib.hid (HS2.out.alloc _)
            have hn : (L.map Tk.tok).length ≤ 2000000000000 := by rw [List.length_map]; omega
            have hB3 : w.heap.size ≤ (w2.alloc (.cells #[.int .i64 k, .string (S t), .int .i64 p] 57)).heap.size := by simp; omega
            go_wp2_with (refine wpList_pushT rfl _ _ rfl w.heap.size _ (L.map Tk.tok) HR3.out.t rfl (Tk.tok ⟨k, t, p⟩) 1 (by show Value.slice (some ⟨w2.heap.size + 1, 0, none⟩) 1 1 = _; rw [World.size_alloc]) hn hB3 ?_; intro v w3 hr hg ho)
            have hpp := HR3.out.pushT HS3.out ⟨k, t, p⟩ hr hg ho
            clear hr hg ho
            have HR5 := Lib.hid hpp.1
            have HS5 := Lib.hid hpp.2
            clear hpp
            refine (skip_any _ (HG.out.bel' HR5.out.b) sb rb l (p + n) br' HS5.out).mono ?_
            rintro e2 w4 ⟨rfl, hs4, hk4⟩
            have HS4 : Hid (Src w4 sb rb l (skq l (p + n)) br') := Lib.hid hs4
            have HR4 := Lib.hid (HR5.out.kp hk4 hsb)
            clear hs4 hk4
            go_wp2_with fail
            go_round
            case rel => exact ⟨e, skq l (p + n), br', L ++ [⟨k, t, p⟩], P, rfl, he1, he2, hq2.2, by simp; omega, hP, HS4, Lib.hid (HB2.out.mono hq2.1), HR4, HL2⟩
            case measure => rw [HS4.out.atOf]; exact HME.out
        · have hnl : ¬ (p : Int) < (l.length : Int) := by omega
          have HLE := Lib.hid (HLr.out.end_ (Nat.le_of_not_lt hlt))
          have hn : (L.map Tk.tok).length ≤ 2000000000000 := by rw [List.length_map]; omega
          have hB3 : w.heap.size ≤ wr.heap.size := HRr.out.b.size
          go_wp2_with (refine wpList_pushT rfl _ _ rfl w.heap.size _ (L.map Tk.tok) HRr.out.t rfl (Tk.tok ⟨6, [], p⟩) 1 rfl hn hB3 ?_; intro v w3 hr hg ho)
          have hpp := HRr.out.pushT HSr.out ⟨6, [], p⟩ hr hg ho
          clear hr hg ho
          go_ret3
          rw [HLE.out]
          exact ⟨hpp.1.b, _, _, rfl, hpp.1.t, hpp.1.p⟩
end Go.Proofs.YtdhdjfkknfbmhaaGreatDoor
