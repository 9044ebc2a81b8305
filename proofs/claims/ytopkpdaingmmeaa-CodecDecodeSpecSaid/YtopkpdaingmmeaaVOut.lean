/- The encoding that is being written: its row of bytes and its writers; the numeral. -/
import Derived.Test.YtopkpdaingmmeaaVCheck
import Derived.Deep.AppendLies
namespace Go.Proofs.Ytopkpdaingmmeaa
open Go.RowKit

def bv (c : UInt8) : Value := .int .u8 c.toNat
theorem Try.infoU8 : (Try.prog.info? 5).map (fun i => (i.zero, i.size, i.bytes)) = some (some (.int .u8 0), 1, 1) := by kernel_rfl

/-- The output o lies in block ob: its bytes are the slice v, a row of the call's own (from block lo on) that holds bs; behind it the writers. -/
structure Out (w : World) (lo ob : Nat) (v : Value) (bs : List UInt8) : Prop where
  own : w.ownsRow lo 5 1 v bs.length (bs.map bv)
  ne : v.ownBlock ≠ some ob
  lo : lo ≤ ob
  lt : ob < w.heap.size
  c0 : w.cell? ⟨ob, 0, none⟩ = some v
  fz : w.frozen? ⟨ob, 0, none⟩ = false
  c2 : w.cell? ⟨ob, 2, none⟩ = some (.func (.func 41) #[] #[])
  c3 : w.cell? ⟨ob, 3, none⟩ = some (.func (.func 42) #[] #[])
  c4 : w.cell? ⟨ob, 4, none⟩ = some (.func (.func 43) #[] #[])
  ty : ∃ cs, w.heap[ob]? = some (.cells cs 52 (0, 0))

/-- What is as it was: all blocks but the output's and its row's. -/
structure Kept (w w' : World) (ob : Nat) (r : Option Nat) : Prop where
  os : w'.os = w.os
  tape : w'.tape = w.tape
  output : w'.output = w.output
  size : w.heap.size ≤ w'.heap.size
  block : ∀ k, k < w.heap.size → k ≠ ob → some k ≠ r → w'.heap[k]? = w.heap[k]?

theorem Kept.refl (w : World) (ob : Nat) (r : Option Nat) : Kept w w ob r := ⟨rfl, rfl, rfl, Nat.le_refl _, fun _ _ _ _ => rfl⟩
theorem Kept.trans {w w1 w2 : World} {ob : Nat} {r r1 : Option Nat} (h : Kept w w1 ob r) (h1 : Kept w1 w2 ob r1) (hr : r1 = r ∨ ∀ k, r1 = some k → w.heap.size ≤ k) : Kept w w2 ob r :=
  ⟨h1.os.trans h.os, h1.tape.trans h.tape, h1.output.trans h.output, Nat.le_trans h.size h1.size, fun k hk hne hr2 =>
    (h1.block k (Nat.lt_of_lt_of_le hk h.size) hne (fun e => by
      rcases hr with rfl | hr
      · exact hr2 e
      · have := hr k e.symm; omega)).trans (h.block k hk hne hr2)⟩
theorem Kept.below {w w' : World} {lo ob : Nat} {r : Option Nat} (h : Kept w w' ob r) (hlo : lo ≤ ob) (hr : ∀ k, r = some k → lo ≤ k) (hw : lo ≤ w.heap.size) : Below lo w w' :=
  ⟨h.os, h.tape, h.output, h.size, fun k hk => h.block k (by omega) (by omega) (fun e => by have := hr k e.symm; omega)⟩
theorem Kept.cell {w w' : World} {ob : Nat} {r : Option Nat} (h : Kept w w' ob r) {a : Addr} (ha : a.block < w.heap.size) (h1 : a.block ≠ ob) (h2 : some a.block ≠ r) : w'.cell? a = w.cell? a :=
  World.cell?_of_block (h.block a.block ha h1 h2)

theorem Out.rows {w : World} {lo ob : Nat} {v : Value} {bs : List UInt8} (h : Out w lo ob v bs) : ∀ k, v.ownBlock = some k → lo ≤ k := fun k hk => (h.own.lt k hk).1
theorem Out.row_lt {w : World} {lo ob : Nat} {v : Value} {bs : List UInt8} (h : Out w lo ob v bs) : ∀ k, v.ownBlock = some k → k < w.heap.size := fun k hk => (h.own.lt k hk).2
theorem ownsRow_setOther {w : World} {base : Nat} {e : TypeId} {size : Nat} {v : Value} {n : Nat} {xs : List Value} (h : w.ownsRow base e size v n xs) {a : Addr} (ha : v.ownBlock ≠ some a.block) (u : Value) : (w.setCell a u).ownsRow base e size v n xs := by
  obtain ⟨h1, h2⟩ := h
  refine ⟨h1, h2.imp id ?_⟩
  rintro ⟨g, cap, cur, rfl, hb, hc, hd⟩
  refine ⟨g, cap, cur, rfl, hb, ?_, hd⟩
  rw [heap_setCell_other _ _ _ _ (by intro e; exact ha (by simp [Value.ownBlock, e]))]
  exact hc
/-- Any step that leaves the output's block and its row's as they are. -/
theorem Out.same {w w' : World} {lo ob : Nat} {v : Value} {bs : List UInt8} (h : Out w lo ob v bs) (hsz : w.heap.size ≤ w'.heap.size) (hb : ∀ k, k < w.heap.size → w'.heap[k]? = w.heap[k]?) : Out w' lo ob v bs := by
  obtain ⟨h1, h2, h3, h4, h5, h6, h7, h8, h9, h10⟩ := h
  have hc := fun o => World.cell?_of_block (a := ⟨ob, o, none⟩) (hb ob h4)
  refine ⟨⟨h1.1, h1.2.imp id ?_⟩, h2, h3, Nat.lt_of_lt_of_le h4 hsz, (hc 0).trans h5, (World.frozen?_of_block (a := ⟨ob, 0, none⟩) (hb ob h4)).trans h6, (hc 2).trans h7, (hc 3).trans h8, (hc 4).trans h9, by rw [hb ob h4]; exact h10⟩
  rintro ⟨g, cap, cur, rfl, a, b, c⟩
  exact ⟨g, cap, cur, rfl, a, by rw [hb g ((Array.getElem?_eq_some_iff.1 b).1)]; exact b, c⟩
theorem Out.bel {w w' : World} {lo ob m : Nat} {v : Value} {bs : List UInt8} (h : Out w lo ob v bs) (hb : Below m w w') (hm : w.heap.size ≤ m) : Out w' lo ob v bs :=
  h.same hb.size fun k hk => hb.block k (by omega)
theorem Out.alloc {w : World} {lo ob : Nat} {v : Value} {bs : List UInt8} (h : Out w lo ob v bs) (o : Obj) : Out (w.alloc o) lo ob v bs := h.bel ((Below.refl w.heap.size w).alloc (Nat.le_refl _) o) (Nat.le_refl _)
theorem Out.drewN {w : World} {lo ob : Nat} {v : Value} {bs : List UInt8} (h : Out w lo ob v bs) (n : Nat) : Out (w.drewN n) lo ob v bs := h.same (Nat.le_refl _) fun _ _ => rfl
theorem Out.drew {w : World} {lo ob : Nat} {v : Value} {bs : List UInt8} (h : Out w lo ob v bs) : Out w.drew lo ob v bs := h.same (Nat.le_refl _) fun _ _ => rfl
theorem Out.base {w : World} {lo ob : Nat} {v : Value} {bs : List UInt8} (h : Out w lo ob v bs) : lo ≤ w.heap.size := by have := h.lo; have := h.lt; omega
/-- The row has grown, and is laid into the output. -/
theorem Out.grow {w w1 : World} {lo ob : Nat} {v v' : Value} {bs bs' : List UInt8} (h : Out w lo ob v bs) (hown : w1.ownsRow lo 5 1 v' bs'.length (bs'.map bv)) (hg : w.grownBy w1 v.ownBlock) :
    Out (w1.setCell ⟨ob, 0, none⟩ v') lo ob v' bs' ∧ Kept w (w1.setCell ⟨ob, 0, none⟩ v') ob v.ownBlock := by
  have hb := hg.block ob h.lt (fun e => h.ne e.symm)
  have hc := fun o => World.cell?_of_block (a := ⟨ob, o, none⟩) hb
  have hne : v'.ownBlock ≠ some ob := by
    obtain ⟨cs, hcs⟩ := h.ty
    rcases hown.2 with ⟨rfl, _⟩ | ⟨g, cap, cur, rfl, _, hgc, _⟩
    · simp [Value.ownBlock]
    · intro e
      obtain rfl : g = ob := by simpa [Value.ownBlock] using e
      rw [hb, hcs] at hgc
      cases hgc
  refine ⟨⟨ownsRow_setOther hown hne _, hne, h.lo, by have := hg.size; have := h.lt; simp; omega, World.cell?_setCell_same _ _ _ ((hc 0).trans h.c0), ?_, ?_, ?_, ?_, ?_⟩, ?_⟩
  · rw [World.frozen?_setCell]; exact (World.frozen?_of_block (a := ⟨ob, 0, none⟩) hb).trans h.fz
  · rw [World.cell?_setCell_other _ _ _ _ (by simp)]; exact (hc 2).trans h.c2
  · rw [World.cell?_setCell_other _ _ _ _ (by simp)]; exact (hc 3).trans h.c3
  · rw [World.cell?_setCell_other _ _ _ _ (by simp)]; exact (hc 4).trans h.c4
  · obtain ⟨cs, hcs⟩ := h.ty
    exact ⟨_, heap_setCell_same _ _ _ _ _ _ (hb.trans hcs)⟩
  · refine ⟨hg.os, hg.tape, hg.output, by simpa using hg.size, fun k hk h1 h2 => ?_⟩
    rw [heap_setCell_other _ _ _ _ (by exact h1)]
    exact hg.block k hk h2

theorem u8_cell {w : World} (x : Int) : ∀ j u, ([Value.int .u8 x] : List Value)[j]? = some u → (w.alloc (.cells #[.int .u8 x] 5)).cell? ((⟨w.heap.size, 0, none⟩ : Addr).add j) = some u := by
  intro j u hj
  match j, hj with
  | 0, hj => simp at hj; subst hj; simp [Addr.add]
  | j + 1, hj => simp at hj
theorem bv_of (n : Nat) (h : n < 256) : bv (UInt8.ofNat n) = .int .u8 n := by unfold bv; rw [toNat_ofNat n h]

theorem bv_ofI (x : Int) (h0 : 0 ≤ x) (h : x < 256) : Value.int .u8 x = bv (UInt8.ofNat x.toNat) := by
  rw [bv_of _ (by omega), Int.toNat_of_nonneg h0]
/-- append(o.b, c): the byte lies in a new block of its own. -/
theorem wpList_push {ops : Array Oper} {rest : List Oper} {o : Oper} {a : Act} {w : World} {Q : Exit → Act → World → Prop} (hgd : o.guard = none) (s x : Operand)
    (ho : o.op = .call { callee := .builtin .append, args := #[s, x], argTypes := #[27, 27] })
    (lo ob : Nat) (v : Value) (bs : List UInt8) (hout : Out w lo ob v bs) (hs : a.eval s = v) (y : Int) (c : Nat) (hx : a.eval x = .slice (some ⟨w.heap.size, 0, none⟩) 1 c) (ch : UInt8) (hch : .int .u8 y = bv ch)
    (hn : bs.length ≤ 10000000000000)
    (h : ∀ g cap w', w'.ownsRow lo 5 1 (.slice (some ⟨g, 0, none⟩) (bs.length + 1) cap) (bs.length + 1) (bs.map bv ++ [bv ch]) → w.grownBy w' v.ownBlock → (v.ownBlock = some g ∨ w.heap.size ≤ g) → g ≠ ob → w'.cell? ⟨ob, 0, none⟩ = some v → w'.frozen? ⟨ob, 0, none⟩ = false → wpList Try.prog ops Q rest (a.put o.dst (.slice (some ⟨g, 0, none⟩) (bs.length + 1) cap)) w') :
    wpList Try.prog ops Q (o :: rest) a (w.alloc (.cells #[.int .u8 y] 5)) := by
  obtain ⟨i0, hi, hz0, hz1, hz2⟩ := info_parts Try.infoU8
  have hlo := hout.lo
  have hlt := hout.lt
  refine wpList_append_lies _ hgd s x 27 ho lo 5 i0 _ 1 1 Try.underlying27 hi hz0 hz1 hz2 rfl (by decide) v bs.length (bs.map bv) hs (hout.own.alloc _) ⟨w.heap.size, 0, none⟩ 1 c [bv ch] hx rfl (by rw [← hch]; exact u8_cell _) (by simp [Value.oneCell', bv]) (by decide) (by unfold maxLen; omega) (by omega) (by simp; omega) (w.heap.size + 1) (by simp) ?_
  intro g cap w' hown hg hat _
  have hg' : w.grownBy w' v.ownBlock := by
    refine ⟨hg.os, hg.tape, hg.output, by have := hg.size; simp at this; omega, fun k hk hne => ?_⟩
    exact (hg.block k (by simp; omega) hne).trans (by rw [((Below.refl w.heap.size w).alloc (Nat.le_refl _) _).block k hk])
  have hb := hg'.block ob hlt (fun e => hout.ne e.symm)
  refine h g cap w' hown hg' (hat.imp id fun e => by omega) ?_ ((World.cell?_of_block (a := ⟨ob, 0, none⟩) hb).trans hout.c0) ((World.frozen?_of_block (a := ⟨ob, 0, none⟩) hb).trans hout.fz)
  · rcases hat with e | e
    · rintro rfl; exact hout.ne e
    · omega

set_option maxRecDepth 100000 in
set_option maxHeartbeats 1000000 in
theorem numeral_any (lo ob : Nat) (u : Nat) (hu : u < 18446744073709551616) (bs : List UInt8) (hbs : bs.length ≤ 1000000000000) (v : Value) (w : World) (h : Out w lo ob v bs) :
    Calls Try.prog 56 #[.pointer (some ⟨ob, 0, none⟩), .int .u64 u] w fun e w' => e = .returned (.tuple #[]) ∧ ∃ v', Out w' lo ob v' (bs ++ num u) ∧ Kept w w' ob v.ownBlock ∧ (v'.ownBlock = v.ownBlock ∨ ∀ k, v'.ownBlock = some k → w.heap.size ≤ k) := by
  obtain ⟨i0, hi, hz0, hz1, hz2⟩ := info_parts Try.infoU8
  have hn10 : (num u).length ≤ 10 := by
    rw [num_length u hu]
    have := Lib.bitLen_le u 64 (by omega) hu
    omega
  have H0 := Lib.hid h; clear h
  go_enter Try.func56, Try.ntmps56
  go_wp2_with fail
  go_loopw [1] (fun x wr => ∃ (y : Nat) (pre : List UInt8) (v1 : Value), x = .int .u64 y ∧ y < 18446744073709551616 ∧ Hid (num u = pre ++ num y) ∧ Hid (Out wr lo ob v1 (bs ++ pre)) ∧ Hid (Kept w wr ob v.ownBlock ∧ (v1.ownBlock = v.ownBlock ∨ ∀ k, v1.ownBlock = some k → w.heap.size ≤ k))) (fun x _ => (intOf x).toNat)
  case atStart => exact ⟨u, [], v, rfl, hu, Lib.hid rfl, Lib.hid (by rw [List.append_nil]; exact H0.out), Lib.hid ⟨Kept.refl _ _ _, .inl rfl⟩⟩
  case round =>
    obtain ⟨y, pre, v1, rfl, hy, HP, HO, HK⟩ := hrel
    have hlen : (bs ++ pre).length ≤ 1000000000010 := by
      have := congrArg List.length HP.out
      rw [List.length_append] at this ⊢
      omega
    have c0 := HO.out.c0
    have fz := HO.out.fz
    have hlt := HO.out.lt
    by_cases hge : 128 ≤ y
    · have HNX := Lib.hid (num_ge (u := y) (by omega))
      have hy1 : (0 : Int) ≤ (y : Int) % 128 + 128 := by omega
      have hy2 : (y : Int) % 128 + 128 < 256 := by omega
      have hy3 : (bs ++ pre).length ≤ 10000000000000 := by omega
      go_wp2_with (refine wpList_push rfl _ _ rfl lo ob v1 (bs ++ pre) HO.out rfl _ _ rfl _ (bv_ofI _ (by assumption) (by assumption)) (by assumption) ?_; intro g cap w5 hown5 hgrow hat hne k0 kf)
      refine ⟨⟨y / 128, pre ++ [UInt8.ofNat (y % 128 + 128)], .slice (some ⟨g, 0, none⟩) ((bs ++ pre).length + 1) cap, by simp, by omega, Lib.hid (by rw [HP.out, HNX.out]; simp), ?_⟩, by simp [intOf]; omega⟩
      rw [show ((y : Int) % 128 + 128).toNat = y % 128 + 128 by omega] at hown5
      have hgr := HO.out.grow (v' := .slice (some ⟨g, 0, none⟩) ((bs ++ pre).length + 1) cap) (bs' := bs ++ (pre ++ [UInt8.ofNat (y % 128 + 128)])) (by
        rw [← List.append_assoc, List.map_append, List.length_append]
        simp only [List.length_append] at hown5 ⊢
        exact hown5) hgrow
      simp only [List.length_append] at hgr ⊢
      refine ⟨Lib.hid hgr.1, Lib.hid ⟨HK.out.1.trans hgr.2 HK.out.2, ?_⟩⟩
      rcases hat with e | e
      · rw [show (Value.slice (some ⟨g, 0, none⟩) (bs.length + pre.length + 1) cap).ownBlock = some g from rfl, ← e]
        exact HK.out.2
      · right
        rintro k ⟨⟩
        exact Nat.le_trans HK.out.1.size e
    · have HNX := Lib.hid (num_lt (u := y) (by omega))
      have hy1 : (0 : Int) ≤ (y : Int) := by omega
      have hy2 : (y : Int) < 256 := by omega
      have hy3 : (bs ++ pre).length ≤ 10000000000000 := by omega
      go_wp2_with (refine wpList_push rfl _ _ rfl lo ob v1 (bs ++ pre) HO.out rfl _ _ rfl _ (bv_ofI _ (by assumption) (by assumption)) (by assumption) ?_; intro g cap w5 hown5 hgrow hat hne k0 kf)
      go_end0
      have hgr := HO.out.grow (v' := .slice (some ⟨g, 0, none⟩) ((bs ++ pre).length + 1) cap) (bs' := bs ++ num u) (by
        rw [HP.out, HNX.out, ← List.append_assoc, List.map_append, List.length_append]
        rw [Int.toNat_natCast] at hown5
        simp only [List.length_append] at hown5 ⊢
        exact hown5) hgrow
      simp only [List.length_append] at hgr ⊢
      refine ⟨trivial, _, hgr.1, HK.out.1.trans hgr.2 HK.out.2, ?_⟩
      rcases hat with e | e
      · rw [show (Value.slice (some ⟨g, 0, none⟩) (bs.length + pre.length + 1) cap).ownBlock = some g from rfl, ← e]
        exact HK.out.2
      · right
        rintro k ⟨⟩
        exact Nat.le_trans HK.out.1.size e
end Go.Proofs.Ytopkpdaingmmeaa
