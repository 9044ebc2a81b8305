/- What the package-level variables hold, and the library's contracts over lists of bytes. -/
import Derived.Test.YtdhdjfkknfbmhaaGreatDoorKBase
import Derived.Test.YtdhdjfkknfbmhaaGreatDoorShelf
import Derived.Deep.QuietTactic
namespace Go.Proofs.YtdhdjfkknfbmhaaGreatDoor
open Go.RowKit

def clsL : List Bs := [[32, 9, 10, 13], [97, 98, 99, 100, 101, 102, 103, 104, 105, 106, 107, 108, 109, 110, 111, 112, 113, 114, 115, 116, 117, 118, 119, 120, 121, 122, 65, 66, 67, 68, 69, 70, 71, 72, 73, 74, 75, 76, 77, 78, 79, 80, 81, 82, 83, 84, 85, 86, 87, 88, 89, 90], [48, 49, 50, 51, 52, 53, 54, 55, 56, 57]]
def escW : List Bs := [[92, 34], [92, 92], [92, 110]]
def escC : List UInt8 := [34, 92, 10]

/-- The variables stand as the program's text lays them. -/
structure Gl (w : World) : Prop where
  size : 12 ≤ w.heap.size
  cls : ∀ i (h : i < clsL.length), w.cell? ⟨0, i, none⟩ = some (.string (S clsL[i]))
  sgn : ∀ i (h : i < signs.length), w.cell? ⟨2, i, none⟩ = some (.string (S signs[i]))
  escW : ∀ i (h : i < escW.length), w.cell? ⟨3, i * 2, none⟩ = some (.string (S escW[i]))
  escC : ∀ i (h : i < escC.length), w.cell? ⟨3, i * 2 + 1, none⟩ = some (.int .u8 escC[i].toNat)
  mx : ∃ m, w.cell? ⟨5, 0, none⟩ = some (.int .i64 m)
  tab : Lib.TabIs Tryz.prog w "internal/strconv.uint64pow10" .u64 Lib.pow10Tab

theorem Gl.bel {w w' : World} {m : Nat} (h : Gl w) (hb : Below m w w') (hm : 12 ≤ m) : Gl w' := by
  have hc : ∀ (b o : Nat), b < 12 → w'.cell? ⟨b, o, none⟩ = w.cell? ⟨b, o, none⟩ := fun b o hlt => hb.cell (p := ⟨b, o, none⟩) (show b < m by omega)
  refine ⟨Nat.le_trans h.size hb.size, fun i hi => (hc 0 i (by decide)).trans (h.cls i hi), fun i hi => (hc 2 i (by decide)).trans (h.sgn i hi), fun i hi => (hc 3 _ (by decide)).trans (h.escW i hi), fun i hi => (hc 3 _ (by decide)).trans (h.escC i hi), ?_, ?_⟩
  · obtain ⟨k, hk⟩ := h.mx
    exact ⟨k, (hc 5 0 (by decide)).trans hk⟩
  · have ht := h.tab
    have hg : Tryz.prog.globalNamed "internal/strconv.uint64pow10" = some 4 := by kernel_rfl
    unfold Lib.TabIs World.var? at ht ⊢
    simp only [hg, Option.bind_some] at ht ⊢
    rw [hb.block 4 (by omega)]
    exact ht
theorem Gl.bel' {w w' : World} (h : Gl w) (hb : Below w.heap.size w w') : Gl w' := h.bel hb h.size

/-- The byte c is of class k. -/
def inC (k : Nat) (c : UInt8) : Bool := if k = 0 then isS c else if k = 1 then isL c else isD c
theorem index_in (l : Bs) (c : UInt8) : decide (0 ≤ Lib.indexByte l c) = l.contains c := by
  induction l with
  | nil => rfl
  | cons b l ih =>
    have hge := Lib.indexByte_ge l c
    by_cases h : b = c
    · subst h; simp [Lib.indexByte]
    · have h1 : (b == c) = false := by simpa using h
      have h2 : (c == b) = false := by simpa using fun e : c = b => h e.symm
      rw [List.contains_cons, h2, Bool.false_or, ← ih, Lib.indexByte, h1]
      by_cases h3 : Lib.indexByte l c = -1
      · simp [h3]
      · have h4 : (Lib.indexByte l c == -1) = false := by simpa using h3
        rw [h4]
        simp
        omega
theorem cls_0 : ∀ n : Fin 256, (clsL.getD 0 []).contains (UInt8.ofNat n.val) = inC 0 (UInt8.ofNat n.val) := by decide +kernel
theorem cls_1 : ∀ n : Fin 256, (clsL.getD 1 []).contains (UInt8.ofNat n.val) = inC 1 (UInt8.ofNat n.val) := by decide +kernel
theorem cls_2 : ∀ n : Fin 256, (clsL.getD 2 []).contains (UInt8.ofNat n.val) = inC 2 (UInt8.ofNat n.val) := by decide +kernel
theorem cls_in : ∀ (k : Nat) (h : k < clsL.length) (c : UInt8), (clsL[k]).contains c = inC k c := by
  intro k h c
  match k, h with
  | 0, _ => exact all_bytes (p := fun c => (clsL.getD 0 []).contains c = inC 0 c) cls_0 c
  | 1, _ => exact all_bytes (p := fun c => (clsL.getD 1 []).contains c = inC 1 c) cls_1 c
  | 2, _ => exact all_bytes (p := fun c => (clsL.getD 2 []).contains c = inC 2 c) cls_2 c
theorem u8_back (c : UInt8) : ((c.toNat : Int)).toNat.toUInt8 = c := by
  simp

theorem indexByte_any (l : Bs) (c : UInt8) (w : World) :
    Calls Tryz.prog 113 #[.string (S l), .int .u8 c.toNat] w fun e w' => e = .returned (.int .i64 (Lib.indexByte l c)) ∧ w' = w := by
  refine (Any.strings_IndexByte Tryz.lays137 (S l) c.toNat w).mono ?_
  rintro e w' ⟨rfl, rfl⟩
  rw [S_data, u8_back]
  exact ⟨rfl, rfl⟩

theorem in_any (k : Nat) (hk : k < 3) (c : UInt8) (w : World) (hG : Gl w) :
    Calls Tryz.prog 54 #[.int .i64 k, .int .u8 c.toNat] w fun e w' => e = .returned (.bool (inC k c)) ∧ w' = w := by
  have hk' : k < clsL.length := hk
  have HI := Lib.hid (indexByte_any clsL[k] c w)
  have HE : Hid (decide (0 ≤ Lib.indexByte clsL[k] c) = inC k c) := Lib.hid (by rw [index_in, cls_in])
  have hc := hG.cls k hk'
  generalize Lib.indexByte clsL[k] c = q at *
  generalize inC k c = r at *
  generalize S clsL[k] = s at *
  clear hG hk'
  go_enter Tryz.func54, Tryz.ntmps54
  go_wp2_with fail
  go_at_call 113
  refine HI.out.mono ?_
  rintro e w' ⟨rfl, rfl⟩
  go_wp2_with fail
  go_ret
  exact ⟨ret_bool HE.out, rfl⟩

theorem cutPrefix_any (l p : Bs) (w : World) :
    Calls Tryz.prog 114 #[.string (S l), .string (S p)] w fun e w' => e = .returned (.tuple #[.string (S (Lib.trimPrefix l p)), .bool (Lib.hasPrefix l p)]) ∧ w' = w := by
  have := Any.strings_CutPrefix Tryz.lays103 (S l) (S p) w
  rw [S_data, S_data] at this
  exact this
theorem hasPrefix_any (l p : Bs) (w : World) :
    Calls Tryz.prog 110 #[.string (S l), .string (S p)] w fun e w' => e = .returned (.bool (Lib.hasPrefix l p)) ∧ w' = w := by
  have := Any.strings_HasPrefix Tryz.lays99 (S l) (S p) w
  rw [S_data, S_data] at this
  exact this
theorem trimPrefix_any (l p : Bs) (w : World) :
    Calls Tryz.prog 107 #[.string (S l), .string (S p)] w fun e w' => e = .returned (.string (S (Lib.trimPrefix l p))) ∧ w' = w := by
  have := Any.strings_TrimPrefix Tryz.lays101 (S l) (S p) w
  rw [S_data, S_data] at this
  exact this

theorem index_cut (c : UInt8) : ∀ l : Bs, (∀ x ∈ l, x ≠ c) → Lib.index l [c] = -1
  | [], _ => rfl
  | x :: r, h => by
    have h1 : x ≠ c := h x (by simp)
    have ih := index_cut c r (fun y hy => h y (by simp [hy]))
    rw [Lib.index, ih]
    have : ([c] : Bs).isPrefixOf (x :: r) = false := by simp [List.isPrefixOf, Ne.symm h1]
    rw [this]; rfl
theorem index_found (c : UInt8) (b : Bs) : ∀ a : Bs, (∀ x ∈ a, x ≠ c) → Lib.index (a ++ c :: b) [c] = a.length
  | [], _ => by rw [List.nil_append, Lib.index]; simp [List.isPrefixOf]
  | x :: r, h => by
    have h1 : x ≠ c := h x (by simp)
    have ih := index_found c b r (fun y hy => h y (by simp [hy]))
    rw [List.cons_append, Lib.index, ih]
    have : ([c] : Bs).isPrefixOf (x :: (r ++ c :: b)) = false := by simp [List.isPrefixOf, Ne.symm h1]
    rw [this]
    have h2 : ((r.length : Int) == -1) = false := by simp
    rw [h2]
    simp
theorem libCut (l : Bs) (c : UInt8) : Lib.cut l [c] = cutB c l := by
  unfold Lib.cut
  rcases cutB_cases c l with ⟨h1, h2⟩ | ⟨a, b, h1, h2, h3⟩
  · rw [index_cut c l h2, h1]; rfl
  · rw [h3]
    subst h1
    rw [index_found c b a h2, if_pos (Int.natCast_nonneg _)]
    simp

theorem cut_any (l : Bs) (c : UInt8) (hl : l.length < 4294967281) (w : World) (hG : Gl w) :
    Calls Tryz.prog 154 #[.string (S l), .string (S [c])] w fun e w' => e = .returned (.tuple #[.string (S (cutB c l).1), .string (S (cutB c l).2.1), .bool (cutB c l).2.2]) ∧ Below w.heap.size w w' := by
  obtain ⟨m, hm⟩ := hG.mx
  have := Any.strings_Cut { Tryz.laysM145 with } (S l) (S [c]) m w (by rw [S_size]; exact hl) hm
  rw [S_data, S_data, libCut] at this
  refine this.mono ?_
  rintro e w' ⟨rfl, n, rfl⟩
  exact ⟨rfl, ⟨rfl, rfl, rfl, Nat.le_refl _, fun _ _ => rfl⟩⟩

theorem splitK_eq (c : UInt8) : ∀ (k : Nat) (l : Bs), Lib.splitK [c] 0 k l = splitC c k l
  | 0, _ => rfl
  | k + 1, l => by
    rw [Lib.splitK, splitC]
    rcases cutB_cases c l with ⟨h1, h2⟩ | ⟨a, b, h1, h2, h3⟩
    · rw [index_cut c l h2, h1]; rfl
    · rw [h3]
      subst h1
      rw [index_found c b a h2]
      have h4 : ((a.length : Int) == -1) = false := by simp
      rw [h4]
      simp only [Bool.false_eq_true, if_false, if_true, Int.toNat_natCast, Nat.add_zero, List.length_singleton, ← splitK_eq c k]
      simp

/-- A row of texts in a block of its own. -/
structure Parts (w : World) (b : Nat) (l : List Bs) : Prop where
  lt : b < w.heap.size
  at' : ∀ i (h : i < l.length), w.cell? ⟨b, i, none⟩ = some (.string (S l[i]))
theorem Parts.bel {w w' : World} {b : Nat} {l : List Bs} (h : Parts w b l) {m : Nat} (hb : Below m w w') (hm : b < m) : Parts w' b l :=
  ⟨Nat.lt_of_lt_of_le h.lt hb.size, fun i hi => (hb.cell (p := ⟨b, i, none⟩) hm).trans (h.at' i hi)⟩

theorem splitN_any (l : Bs) (hl : l.length < 4294967281) (w : World) (hG : Gl w) :
    Calls Tryz.prog 155 #[.string (S l), .string (S [58]), .int .i64 4] w fun e w' =>
      ∃ c, e = .returned (.slice (some ⟨w.heap.size, 0, none⟩) (splitC 58 3 l).length c) ∧ (splitC 58 3 l).length ≤ c ∧ c ≤ 4 ∧ Parts w' w.heap.size (splitC 58 3 l) ∧ Below w.heap.size w w' := by
  obtain ⟨m, hm⟩ := hG.mx
  have := Any.strings_SplitN { Tryz.laysM147 with } Tryz.laysM147.i9 (S l) (S [58]) 4 m w (by rw [S_size]; exact hl) hm (by decide) (by decide) (by decide)
  refine this.mono ?_
  rintro e w' ⟨rfl, rfl⟩
  have hd := Lib.splitB_data (S [58]) 0 (min 4 ((S l).size + 1) - 1) (S l)
  rw [S_data, S_data, splitK_eq, S_size, show min 4 (l.length + 1) - 1 = min 3 l.length by omega, splitC_min] at hd
  have hlen := congrArg List.length hd
  rw [List.length_map] at hlen
  have hle := Lib.splitB_length_le (S [58]) 0 (min 3 l.length) (S l)
  rw [S_size, show min 4 (l.length + 1) - 1 = min 3 l.length by omega]
  rw [hlen] at hle
  refine ⟨_, by rw [hlen], by omega, by omega, ⟨by simp, fun i hi => ?_⟩, (Below.refl _ _).alloc (Nat.le_refl _) _⟩
  have hi2 : i < (Lib.splitB (S [58]) 0 (min 3 l.length) (S l)).length := by omega
  have hx : (Lib.splitB (S [58]) 0 (min 3 l.length) (S l))[i] = S ((splitC 58 3 l)[i]) := by
    have h1 := congrArg (fun z : List Bs => z[i]?) hd
    simp only [List.getElem?_map, List.getElem?_eq_getElem hi2, List.getElem?_eq_getElem hi, Option.map_some, Option.some.injEq] at h1
    rw [← h1]; rfl
  have hc := heap_alloc_new w (.cells (Lib.cellsOf (Lib.splitB (S [58]) 0 (min 3 l.length) (S l)) (min 4 (l.length + 1))) 9)
  have hv : (Lib.cellsOf (Lib.splitB (S [58]) 0 (min 3 l.length) (S l)) (min 4 (l.length + 1)))[i]? = some (.string (S ((splitC 58 3 l)[i]))) := by
    unfold Lib.cellsOf
    rw [List.getElem?_toArray, List.getElem?_append_left (by rw [List.length_map]; exact hi2), List.getElem?_map, List.getElem?_eq_getElem hi2, hx]
    rfl
  have := cell_of_row _ w.heap.size i _ _ _ hc
  rw [hv] at this
  exact this

theorem contains_digits (c : UInt8) : (clsL.getD 2 []).contains c = isD c := all_bytes (p := fun c => (clsL.getD 2 []).contains c = isD c) cls_2 c
theorem ascii_of (l : Bs) (h : l.all (fun b => decide (b.toNat < 128)) = true) : ∀ (j : Nat) b, l[j]? = some b → b.toNat < 128 := by
  intro j b hb
  have := List.all_eq_true.1 h b (List.mem_of_getElem? hb)
  simpa using this
theorem trimLeft_any (l : Bs) (w : World) :
    Calls Tryz.prog 176 #[.string (S l), .string (S (clsL.getD 2 []))] w fun e w' => e = .returned (.string (S (l.dropWhile isD))) ∧ Below w.heap.size w w' := by
  have := Any.strings_TrimLeft_laid Tryz.lays161 (by kernel_rfl) (S l) (S (clsL.getD 2 [])) w (by rw [S_size]; decide) (by rw [S_data]; exact ascii_of _ (by decide))
  rw [S_data, S_data] at this
  refine this.mono ?_
  rintro e w' ⟨rfl, hb⟩
  refine ⟨?_, hb⟩
  unfold Lib.trimLeftS
  have hf : (fun x => (clsL.getD 2 []).contains x) = isD := funext contains_digits
  rw [hf]; rfl
def trimZ (l : Bs) : Bs := (l.reverse.dropWhile (· == 48)).reverse
theorem repeat_any (k : Nat) (hk : k ≤ 1000) (w : World) :
    Calls Tryz.prog 181 #[.string (S [48]), .int .i64 k] w fun e w' => e = .returned (.string (S (List.replicate k 48))) ∧ Below w.heap.size w w' := by
  have := Any.strings_Repeat Tryz.lays105 Tryz.Builder_Extra_105 (S [48]) k w (by omega) (by rw [S_size, List.length_singleton]; omega)
  rw [S_data] at this
  refine this.mono ?_
  rintro e w' ⟨rfl, hb⟩
  refine ⟨?_, hb⟩
  have := Lib.repeatL_replicate 48 1 k
  rw [Nat.mul_one] at this
  rw [show ([48] : Bs) = List.replicate 1 48 from rfl, this]; rfl
theorem itoa_any (n : Nat) (hn : n ≤ 9223372036854775807) (w : World) (hG : Gl w) :
    Calls Tryz.prog 18 #[.int .i64 n] w fun e w' => e = .returned (.string (S (Lib.decDigits n))) ∧ Below w.heap.size w w' := by
  refine (Any.strconv_Itoa Tryz.laysM171 n (by omega) (by omega) w hG.tab).mono ?_
  rintro e w' ⟨rfl, k, os, rfl⟩
  refine ⟨by rw [Lib.itoa_nonneg]; rfl, ?_⟩
  exact ⟨rfl, rfl, rfl, by simp [Go.Sort.grow, World.drewN], fun b hb => by simp [Go.Sort.grow, World.drewN, Array.getElem?_append_left, hb]⟩
end Go.Proofs.YtdhdjfkknfbmhaaGreatDoor
