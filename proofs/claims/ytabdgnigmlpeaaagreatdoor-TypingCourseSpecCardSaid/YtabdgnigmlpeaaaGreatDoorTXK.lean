/- Maps keyed by structs and arrays of numbers: the keys' laws; how often each key stands in a list; how many keys there are. -/
import Derived.Test.YtabdgnigmlpeaaaGreatDoorTXC
import Derived.Test.YtabdgnigmlpeaaaGreatDoorTXL
import Derived.DeepKeys4
import Derived.ChangeKeys
import Derived.WideKeyEntry
import Derived.Test.YtabdgnigmlpeaaaGreatDoorTXM
import Derived.Test.YtabdgnigmlpeaaaGreatDoorTXR
import Derived.Deep.RegionWith
import Derived.Deep.RegionHeld3
import Derived.IntWalk
import Derived.Deep.DeepCutAuto
import Derived.Test.YtabdgnigmlpeaaaGreatDoorTXE
namespace Go.Proofs.YtabdgnigmlpeaaaGreatDoor
open Go.RowKit Go.Maps Go.WideMaps

set_option maxRecDepth 100000 in
theorem rowEnds : (132 : TypeId) < Tryz.prog.types.size := of_decide_eq_true (by kernel_rfl)
set_option maxRecDepth 100000 in
theorem rowThree : (143 : TypeId) < Tryz.prog.types.size := of_decide_eq_true (by kernel_rfl)
set_option maxRecDepth 100000 in
theorem wideEnds : (match Tryz.prog.underlying 132 with | some (.array _ _) | some (.struct _) => true | _ => false) = true := by kernel_rfl
set_option maxRecDepth 100000 in
theorem wideThree : (match Tryz.prog.underlying 143 with | some (.array _ _) | some (.struct _) => true | _ => false) = true := by kernel_rfl
set_option maxRecDepth 100000 in
theorem lawEnds : Keyed Tryz.prog 132 := Keyed.of_law (deep_law_laid laidOut (m := 2) (by omega) rowEnds (by kernel_rfl) wideEnds)
set_option maxRecDepth 100000 in
theorem lawThree : Keyed Tryz.prog 143 := Keyed.of_law (deep_law_laid laidOut (m := 2) (by omega) rowThree (by kernel_rfl) wideThree)
def endsK (k : Int × Int) : Lit := .string (keyBytes [.int .i64 k.1, .int .i64 k.2])
def threeK (k : Int × Int × Int) : Lit := .string (keyBytes [.int .i64 k.1, .int .i64 k.2.1, .int .i64 k.2.2])
def WfI (x : Int) : Prop := (Lit.int .i64 x).wf = true
def WfE (k : Int × Int) : Prop := WfI k.1 ∧ WfI k.2
def WfT (k : Int × Int × Int) : Prop := WfI k.1 ∧ WfI k.2.1 ∧ WfI k.2.2
theorem endsK_inj (k k2 : Int × Int) (h : WfE k) (h2 : WfE k2) (e : endsK k = endsK k2) : k = k2 := by
  obtain ⟨a, b⟩ := k
  obtain ⟨a2, b2⟩ := k2
  have e1 : keyBytes [.int .i64 a, .int .i64 b] = keyBytes [.int .i64 a2, .int .i64 b2] := by simpa [endsK] using e
  have := keyBytes_inj (l := [.int .i64 a, .int .i64 b]) (l' := [.int .i64 a2, .int .i64 b2]) ⟨rfl, rfl, trivial⟩ (by simpa [Lit.keyWf, WfE, WfI] using h) (by simpa [Lit.keyWf, WfE, WfI] using h2) e1
  simpa using this
theorem threeK_inj (k k2 : Int × Int × Int) (h : WfT k) (h2 : WfT k2) (e : threeK k = threeK k2) : k = k2 := by
  obtain ⟨a, b, c⟩ := k
  obtain ⟨a2, b2, c2⟩ := k2
  have e1 : keyBytes [.int .i64 a, .int .i64 b, .int .i64 c] = keyBytes [.int .i64 a2, .int .i64 b2, .int .i64 c2] := by simpa [threeK] using e
  have := keyBytes_inj (l := [.int .i64 a, .int .i64 b, .int .i64 c]) (l' := [.int .i64 a2, .int .i64 b2, .int .i64 c2]) ⟨rfl, rfl, rfl, trivial⟩ (by simpa [Lit.keyWf, WfT, WfI] using h) (by simpa [Lit.keyWf, WfT, WfI] using h2) e1
  simpa using this
theorem someTypes : ∃ m, Tryz.prog.types.size = m + 1 + 1 := ⟨Tryz.prog.types.size - 2, by
  have : (1 : Nat) < Tryz.prog.types.size := of_decide_eq_true (by kernel_rfl)
  omega⟩
set_option maxRecDepth 100000 in
theorem typeEnds : Tryz.prog.keyType 132 = true := by kernel_rfl
set_option maxRecDepth 100000 in
theorem typeThree : Tryz.prog.keyType 143 = true := by kernel_rfl
set_option maxRecDepth 100000 in
theorem cellsEnds : Tryz.prog.cellsOf 132 = 2 := by kernel_rfl
set_option maxRecDepth 100000 in
theorem cellsThree : Tryz.prog.cellsOf 143 = 3 := by kernel_rfl
set_option maxRecDepth 100000 in
theorem keyEnds (a b : Int) (wa : WfI a) (wb : WfI b) : keyOf Tryz.prog 132 (.agg #[.int .i64 a, .int .i64 b]) = some (endsK (a, b)) := by
  obtain ⟨m, hm⟩ := someTypes
  unfold WfI at wa wb
  unfold keyOf
  simp only [Tryz.underlying132]
  rw [if_pos (by simp [typeEnds, Value.formed, Tryz.underlying132, cellsEnds]), hm]
  unfold Program.keyLits
  simp only [Tryz.underlying132, Value.cells]
  rw [if_pos (by rw [cellsEnds]; exact ⟨rfl, by kernel_rfl⟩)]
  simp [List.mapM_cons, cellsI', Program.keyLits, Tryz.underlying3, wa, wb, endsK]
set_option maxRecDepth 100000 in
theorem keyThree (a b c : Int) (wa : WfI a) (wb : WfI b) (wc : WfI c) : keyOf Tryz.prog 143 (.agg #[.int .i64 a, .int .i64 b, .int .i64 c]) = some (threeK (a, b, c)) := by
  obtain ⟨m, hm⟩ := someTypes
  unfold WfI at wa wb wc
  unfold keyOf
  simp only [Tryz.underlying143]
  rw [if_pos (by simp [typeThree, Value.formed, Tryz.underlying143, cellsThree]), hm]
  unfold Program.keyLits
  simp only [Tryz.underlying143, Value.cells]
  rw [if_pos (by rw [cellsThree]; rfl), show List.range 3 = [0, 1, 2] from rfl]
  simp [List.mapM_cons, cellsI', Program.keyLits, Tryz.underlying3, wa, wb, wc, threeK]
/-- The map holds how often each key stands in l, and nothing else. -/
structure CntK {κ : Type} [BEq κ] [LawfulBEq κ] (f : κ → Lit) (ok : κ → Prop) (D : DataW Unit) (l : List κ) : Prop where
  im : Tidy D
  at' : ∀ k, ok k → D.atKey (f k) (.lit (.int .i64 0)) = .lit (.int .i64 (l.count k : Nat))
  hs : ∀ k, ok k → has D (f k) = l.contains k
  le : size D ≤ l.length
  nd : size D = l.length ↔ l.Nodup
theorem CntK.start {κ : Type} [BEq κ] [LawfulBEq κ] (f : κ → Lit) (ok : κ → Prop) : CntK f ok (.map []) [] := ⟨tidy_empty, fun _ _ => rfl, fun _ _ => rfl, Nat.le_refl _, by simp [size]⟩
theorem CntK.step {κ : Type} [BEq κ] [LawfulBEq κ] {f : κ → Lit} {ok : κ → Prop} {D : DataW Unit} {l : List κ} (h : CntK f ok D l) (hf : ∀ k k2, ok k → ok k2 → f k = f k2 → k = k2) (hk : ∀ k, WideAt.IsKeyLit (f k)) (k : κ) (ho : ok k) (c : Int) (hc : c = (l.count k : Nat)) :
    CntK f ok (D.put (f k) (.lit (.int .i64 (c + 1)))) (l ++ [k]) := by
  subst hc
  have him := h.im.isMap
  refine ⟨h.im.put (hk k) _, fun k2 ho2 => ?_, fun k2 ho2 => ?_, ?_, ?_⟩
  · by_cases he : k2 = k
    · subst he
      rw [atKey_put_same him (hk _)]
      simp [List.count_append]
    · rw [atKey_put_other (by intro e; exact he (hf _ _ ho2 ho e)), h.at' k2 ho2]
      simp [List.count_append, Ne.symm he]
  · by_cases he : k2 = k
    · subst he
      rw [has_put_same him (hk _)]
      simp
    · rw [has_put_other (by intro e; exact he (hf _ _ ho2 ho e)), h.hs k2 ho2]
      simp [he]
  · rw [size_put h.im, h.hs k ho]
    have := h.le
    simp only [List.length_append, List.length_cons, List.length_nil]
    split <;> omega
  · rw [size_put h.im, h.hs k ho]
    have h1 := h.le
    have h2 := h.nd
    simp only [List.length_append, List.length_cons, List.length_nil]
    by_cases hin : k ∈ l
    · rw [if_pos (by simpa using hin)]
      refine ⟨fun e => by omega, fun hn => ?_⟩
      rw [List.nodup_append] at hn
      exact absurd rfl (hn.2.2 k hin k (by simp))
    · rw [if_neg (by simpa using hin)]
      rw [List.nodup_append]
      constructor
      · intro e
        refine ⟨h2.1 (by omega), by simp, fun a ha b hb => ?_⟩
        simp at hb
        subst hb
        rintro rfl
        exact hin ha
      · intro hn
        have := h2.2 hn.1
        omega
end Go.Proofs.YtabdgnigmlpeaaaGreatDoor
/- 'm[k]++' at keys that are structs or arrays: the entry is found or made, then stored into. -/
namespace Go.Proofs.YtabdgnigmlpeaaaGreatDoor
open Go.RowKit Go.Maps Go.WideMaps
open Go.ChangeMaps (setBlock heap_setBlock_same heap_setBlock_other)

/-- Where a map's entry is sought, and made where there is none: the map holds a zero there then; and the store into that entry, in any later world in which the map's block is the same. -/
theorem entry_own {P : Program} {k t e : TypeId} {w : World} {b n : Nat} {D : DataW Unit} (K : KeyLaw P k) (ht : P.underlying t = some (.map k e)) (he : P.underlying e = some (.int .i64)) (hz : ∀ u : World, (zeroValue e).run P u = .ok (.int .i64 0) u)
    (h : w.ownsMap P k (plainElem (H := Unit) P e) b n D) (hn : n < maxLen) {key : Value} {kl : Lit} (hkey : keyOf P k key = some kl) :
    ∃ (v0 : Value) (st : Nat) (w1 : World) (D1 : DataW Unit), (Instr.mapEntry t (.map (some b)) key).run P w = .ok (.tuple #[v0, .int .i64 st]) w1 ∧ w.grownBy w1 (some b) ∧ w1.ownsMap P k (plainElem (H := Unit) P e) b (n + 1) D1 ∧ D1.atKey kl (.lit (.int .i64 0)) = D.atKey kl (.lit (.int .i64 0)) ∧
      ∀ (w2 : World) (c : Int), w2.heap[b]? = w1.heap[b]? → (Lit.int .i64 c).wf = true → ∃ w', (Instr.entryStore t (.map (some b)) (.int .i64 st) (.int .i64 c)).run P w2 = .ok () w' ∧ w'.ownsMap P k (plainElem (H := Unit) P e) b (n + 1) (D.put kl (.lit (.int .i64 c))) ∧ w2.grownBy w' (some b) := by
  have hK : Keyed P k := Keyed.of_law K
  obtain ⟨es, clock, hb, F, hs, hD⟩ := id h
  obtain ⟨v0, st, es1, clock1, hrun, hv0, hstore⟩ := Go.WideElems.entry_then_store K ht hz hb F hkey
  have grown : ∀ (u : World) (o : Obj), u.grownBy (setBlock u b o) (some b) := fun u o => ⟨rfl, rfl, rfl, by simp [setBlock], fun i _ hi => by
    by_cases e : i = b
    · exact absurd (by rw [e]) hi
    · simp [setBlock, Ne.symm e]⟩
  have hb1 : (setBlock w b (.map es1 clock1)).heap[b]? = some (.map es1 clock1) := heap_setBlock_same hb _
  -- the store's world, whatever the value
  have store : ∀ (w2 : World) (c : Int), w2.heap[b]? = some (.map es1 clock1) → (Lit.int .i64 c).wf = true → ∃ w', (Instr.entryStore t (.map (some b)) (.int .i64 st) (.int .i64 c)).run P w2 = .ok () w' ∧ w'.ownsMap P k (plainElem (H := Unit) P e) b (n + 1) (D.put kl (.lit (.int .i64 c))) ∧ w2.grownBy w' (some b) := by
    intro w2 c hw2 hc
    obtain ⟨es', clock', r1, r2⟩ := hstore w2 (.int .i64 c) hw2
    obtain ⟨w', r3, r4, r5⟩ := h.update hK ht hn hkey (plainElem_int he hc)
    rw [r2] at r3
    simp only [Result.ok.injEq, true_and] at r3
    subst r3
    obtain ⟨es3, clock3, q1, q2, q3, q4⟩ := r4
    rw [heap_setBlock_same hb] at q1
    simp only [Option.some.injEq, Obj.map.injEq] at q1
    obtain ⟨rfl, rfl⟩ := q1
    exact ⟨_, r1, ⟨es', clock', heap_setBlock_same hw2 _, q2, q3, q4⟩, grown _ _⟩
  rcases hK.find w hkey es.toList F.keys with ⟨h1, h2⟩ | ⟨j, e0, h1, h2, h3⟩
  · -- no entry: one is made, with a zero
    have hm : (Instr.mapEntry t (.map (some b)) key).run P w = .ok (.tuple #[.int .i64 0, goInt clock]) (setBlock w b (.map (es.push ⟨key, .int .i64 0, clock⟩) (clock + 1))) := by
      simp [Instr.mapEntry, run_underlying ht, MapKept.run_getObj_map hb, K.check w false hkey, h1, hz, MapKept.run_setObj_map _ hb, Result.andThen, setBlock]
    have hu : (Instr.mapUpdate t (.map (some b)) key (.int .i64 0)).run P w = .ok () (setBlock w b (.map (es.push ⟨key, .int .i64 0, clock⟩) (clock + 1))) := by
      simp [Instr.mapUpdate, run_underlying ht, MapKept.run_getObj_map hb, K.check w false hkey, h1, MapKept.run_setObj_map _ hb, Result.andThen, setBlock]
    rw [hm] at hrun
    obtain ⟨w', r3, r4, r5⟩ := h.update hK ht hn hkey (plainElem_int he (a := 0) (by decide))
    rw [hu] at r3
    simp only [Result.ok.injEq, true_and] at r3
    subst r3
    have hat : ∀ zd, D.atKey kl zd = zd := by
      rcases Maps.fit_look false hK ht (hz w) hb F hkey with ⟨_, _, q⟩ | ⟨e1, y, q1, q2, _⟩
      · rw [hD]; exact q
      · exact absurd q2 (h2 e1 q1)
    simp only [Result.ok.injEq, Value.tuple.injEq] at hrun
    obtain ⟨hv, hw⟩ := hrun
    refine ⟨.int .i64 0, clock, _, _, hm, grown _ _, r4, ?_, fun w2 c hw2 hc => ?_⟩
    · rw [atKey_put_same h.isMap (hK.key hkey), hat]
    · have e1 : w2.heap[b]? = some (.map es1 clock1) := by rw [hw2, hw]; exact hb1
      have e2 : (clock : Nat) = st := by
        simp [goInt] at hv
        exact_mod_cast hv.2
      rw [e2]
      exact store w2 c e1 hc
  · have hj : es[j]? = some e0 := by simpa using h2
    have hsame : es.modify j (fun e => { e with key := key }) = es := by
      have hid : ({ e0 with key := key } : MapEntry) = e0 := by rw [← h3]
      apply Array.ext_getElem?
      intro i
      rw [Array.getElem?_modify]
      by_cases hi : i = j
      · subst hi
        rw [hj]
        simp [hid]
      · simp [Ne.symm hi]
    have hm : (Instr.mapEntry t (.map (some b)) key).run P w = .ok (.tuple #[e0.val, goInt e0.born]) (setBlock w b (.map es clock)) := by
      simp [Instr.mapEntry, run_underlying ht, MapKept.run_getObj_map hb, K.check w false hkey, h1, hj, h3, K.stays w hkey, hsame, MapKept.run_setObj_map _ hb, Result.andThen, setBlock]
    rw [hm] at hrun
    simp only [Result.ok.injEq, Value.tuple.injEq] at hrun
    obtain ⟨hv, hw⟩ := hrun
    refine ⟨e0.val, e0.born, _, D, hm, grown _ _, ⟨es, clock, heap_setBlock_same hb _, F, by omega, hD⟩, rfl, fun w2 c hw2 hc => ?_⟩
    have e1 : w2.heap[b]? = some (.map es1 clock1) := by rw [hw2, hw]; exact hb1
    have e2 : e0.born = st := by
      simp [goInt] at hv
      exact_mod_cast hv.2
    rw [e2]
    exact store w2 c e1 hc
end Go.Proofs.YtabdgnigmlpeaaaGreatDoor
/- counts, keyed by structs and arrays. -/
namespace Go.Proofs.YtabdgnigmlpeaaaGreatDoor
open Go.RowKit Go.Maps Go.WideMaps

theorem bel_undrew {B : Nat} {w w' : World} (h : Below B w.drew w') : Below B w w' := ⟨h.os, h.tape, h.output, h.size, h.block⟩
set_option maxRecDepth 100000 in
theorem klawEnds : KeyLaw Tryz.prog 132 := deep_law_laid laidOut (m := 2) (by omega) rowEnds (by kernel_rfl) wideEnds
set_option maxRecDepth 100000 in
theorem klawThree : KeyLaw Tryz.prog 143 := deep_law_laid laidOut (m := 2) (by omega) rowThree (by kernel_rfl) wideThree
theorem int_wf {c : Int} (h0 : 0 ≤ c) (h1 : c ≤ 2000000) : (Lit.int .i64 c).wf = true := by
  simp only [Lit.wf, IntKind.min, IntKind.max, IntKind.signed, IntKind.bits, Bool.and_eq_true, decide_eq_true_eq, if_true]
  omega
theorem grown_below {B : Nat} {w w' : World} (hB : B ≤ w.heap.size) (h : w.grownBy w' (some B)) : Below B w w' := (Below.refl B w).grown h hB (fun j hj => by cases hj; exact Nat.le_refl _)
/-- One key more: what the two look-ups say (before the entry is there, and behind), the entry, the store. -/
theorem count_step {κ : Type} [BEq κ] [LawfulBEq κ] {f : κ → Lit} {ok : κ → Prop} {kt t : TypeId} (K : KeyLaw Tryz.prog kt) (ht : Tryz.prog.underlying t = some (.map kt 3)) (hf : ∀ k k2, ok k → ok k2 → f k = f k2 → k = k2) (hkl : ∀ k, WideAt.IsKeyLit (f k))
    {w : World} {b n : Nat} {D : DataW Unit} {N : List κ} (h : w.ownsMap Tryz.prog kt (plainElem (H := Unit) Tryz.prog 3) b n D) (hD : CntK f ok D N) (hn : n ≤ 1000000) (hN : N.length ≤ 1000000) (k : κ) (ho : ok k) {key : Value} (hkey : keyOf Tryz.prog kt key = some (f k)) :
    ∃ (c : Int) (v0 : Value) (st : Nat) (w2 w3 : World) (D' : DataW Unit), (Instr.lookup t (.map (some b)) key false).run Tryz.prog w = .ok (.int .i64 c) w ∧ (Instr.mapEntry t (.map (some b)) key).run Tryz.prog w = .ok (.tuple #[v0, .int .i64 st]) w2 ∧ (Instr.lookup t (.map (some b)) key false).run Tryz.prog w2 = .ok (.int .i64 c) w2 ∧
      IntKind.i64.wrap (c + 1) = c + 1 ∧ (Instr.entryStore t (.map (some b)) (.int .i64 st) (.int .i64 (c + 1))).run Tryz.prog w2 = .ok () w3 ∧ Hid (w3.ownsMap Tryz.prog kt (plainElem (H := Unit) Tryz.prog 3) b (n + 1) D') ∧ Hid (CntK f ok D' (N ++ [k])) ∧ Hid (Below b w w3) := by
  have hK : Keyed Tryz.prog kt := Keyed.of_law K
  obtain ⟨cc, hrun1, hat, -⟩ := h.lookup_int hK ht Tryz.underlying3 (zeroI _) hkey
  have hcc : cc = (N.count k : Nat) := by
    have h2 := hD.at' k ho
    rw [hat] at h2
    simpa using h2
  have hcl : N.count k ≤ N.length := List.count_le_length
  obtain ⟨v0, st, w2, D1, hent, hg1, hO2, hat2, hsto⟩ := entry_own K ht Tryz.underlying3 zeroI h (by unfold maxLen; omega) hkey
  obtain ⟨c2, hrun2, hat3, -⟩ := hO2.lookup_int hK ht Tryz.underlying3 (zeroI _) hkey
  have hcc2 : c2 = cc := by
    rw [hat2, hat] at hat3
    simpa using hat3.symm
  rw [hcc2] at hrun2
  obtain ⟨w3, hst, hO3, hg3⟩ := hsto w2 (cc + 1) rfl (int_wf (by omega) (by omega))
  exact ⟨cc, v0, st, w2, w3, _, hrun1, hent, hrun2, IntWalk.i64_in _ (by omega), hst, Lib.hid hO3, Lib.hid (hD.step hf hkl k ho cc hcc), Lib.hid ((grown_below (Nat.le_of_lt h.lt) hg1).trans (grown_below (Nat.le_of_lt hO2.lt) hg3))⟩

def endsOf (x : LegD) := (x.f, x.t)
set_option maxHeartbeats 4000000 in
set_option maxRecDepth 100000 in
theorem counts_leg {l : List LegD} (g : Nat) (eg : ∀ args w, (callFunc g args).run Tryz.prog w = .ok (.enter g args) w) {p : Option Addr} {cap : Nat} {w : World} {Q : Nat → Prop} (h : FlatIn w Q 4 LegD.cells l p cap) (hl : l.length ≤ 1000000)
    (hcall : ∀ (W : World) (x : LegD), Calls Tryz.prog g #[.agg #[.int .i64 x.f, .int .i64 x.t, .int .i64 x.mi, .int .i64 x.ma]] W fun e w' => e = .returned (.agg #[.int .i64 x.f, .int .i64 x.t]) ∧ Below W.heap.size W w') (hwf : ∀ x ∈ l, WfE (endsOf x)) :
    Calls Tryz.prog 92 #[.slice p l.length cap, .func (Fn.func g) #[] #[]] w fun e w' => ∃ D, e = .returned (.map (some w.heap.size)) ∧ w'.ownsMap Tryz.prog 132 (plainElem (H := Unit) Tryz.prog 3) w.heap.size l.length D ∧ CntK endsK WfE D (l.map endsOf) ∧ Below w.heap.size w w' := by
  have hmm := @run_makeMap Tryz.prog
  obtain ⟨b, off, hL, hcell⟩ := h
  have HE : Hid (∀ w', Below w.heap.size w w' → ∀ j (h : j < l.length), p = some ⟨b, off, none⟩ ∧ w'.cell? ⟨b, off + j * 4, none⟩ = some (.int .i64 l[j].f) ∧ w'.cell? ⟨b, off + j * 4 + 1, none⟩ = some (.int .i64 l[j].t) ∧ w'.cell? ⟨b, off + j * 4 + 2, none⟩ = some (.int .i64 l[j].mi) ∧ w'.cell? ⟨b, off + j * 4 + 3, none⟩ = some (.int .i64 l[j].ma)) := Lib.hid fun w' hb' j hj =>
    ⟨(hL.hb (by omega)).1, keepc hb' (hcell j hj 0 _ rfl), keepc hb' (hcell j hj 1 _ rfl), keepc hb' (hcell j hj 2 _ rfl), keepc hb' (hcell j hj 3 _ rfl)⟩
  have HC := Lib.hid hcall
  have HZ := Lib.hid hwf
  clear hL hcell hcall hwf
  go_enter Tryz.func92, Tryz.ntmps92
  go_wp2_with fail
  go_loopw [11] (fun i wr => ∃ (j : Nat) (D : DataW Unit), j ≤ l.length ∧ i = .int .i64 j ∧ Hid (wr.ownsMap Tryz.prog 132 (plainElem (H := Unit) Tryz.prog 3) w.heap.size j D) ∧ Hid (CntK endsK WfE D ((l.take j).map endsOf)) ∧ Hid (Below w.heap.size w wr)) (fun i _ => l.length - (intOf i).toNat)
  case atStart => exact ⟨0, .map [], Nat.zero_le _, rfl, Lib.hid (World.ownsMap_made _ _ _ _), Lib.hid (CntK.start _ _), Lib.hid ((Below.refl _ _).alloc (Nat.le_refl _) _)⟩
  case round =>
    obtain ⟨j, D, hj, rfl, HO, HD, HB⟩ := hrel
    by_cases hlt : j < l.length
    · have hji : (j : Int) < (l.length : Int) := by omega
      obtain ⟨rfl, y0, y1, y2, y3⟩ := HE.out _ HB.out j hlt
      have HWF := Lib.hid (HZ.out l[j] (List.getElem_mem hlt))
      have HT : Hid (((l.take (j + 1)).map endsOf) = ((l.take j).map endsOf) ++ [endsOf l[j]]) := Lib.hid (by rw [List.take_succ_eq_append_getElem hlt, List.map_append]; rfl)
      have HCj := Lib.hid (fun W => HC.out W l[j])
      have HNL : Hid (((l.take j).map endsOf).length ≤ 1000000) := Lib.hid (by rw [List.length_map, List.length_take]; omega)
      clear HE HC HZ
      generalize ((l.take j).map endsOf) = N at *
      generalize hN2 : ((l.take (j + 1)).map endsOf) = N2 at *
      have HN2 := Lib.hid hN2
      clear hN2
      generalize l[j] = x at *
      have HA := Lib.hid ((Below.refl wr.heap.size wr).alloc (Nat.le_refl _) (.cells #[.int .i64 x.f, .int .i64 x.t, .int .i64 x.mi, .int .i64 x.ma] 72))
      have HBA := Lib.hid (HB.out.alloc HB.out.size (.cells #[.int .i64 x.f, .int .i64 x.t, .int .i64 x.mi, .int .i64 x.ma] 72))
      obtain ⟨xf, xt, xmi, xma⟩ := x
      simp only at *
      have HKEY : Hid (keyOf Tryz.prog 132 (.agg #[.int .i64 xf, .int .i64 xt]) = some (endsK (xf, xt))) := Lib.hid (keyEnds xf xt HWF.out.1 HWF.out.2)
      go_upto_region 5 with (fail)
      go_region_with (go_at_fn g; (with_reducible refine (HCj.out _).mono ?_); rintro e w1 ⟨rfl, hb1⟩
                      have hb1 := bel_undrew hb1
                      have HO1 := Lib.hid ((HO.out.kept (gr_bel none HA.out) (by simp)).kept (gr_bel none hb1) (by simp))
                      have HB1 := Lib.hid (HBA.out.trans (hb1.mono HBA.out.size))
                      obtain ⟨cc, v0, st, w2, w3, D2, r1, r2, r3, r4, r5, HO3, HD3, HB3⟩ := count_step klawEnds Tryz.underlying146 endsK_inj (fun _ => trivial) HO1.out HD.out (by omega) HNL.out (xf, xt) HWF.out HKEY.out
                      clear hb1)
      all_goals
        have HB5 : Hid (Below w.heap.size w w3) := Lib.hid (HB1.out.trans HB3.out)
        have HD5 : Hid (CntK endsK WfE D2 N2) := Lib.hid (by rw [HT.out]; exact HD3.out)
        clear r1 r2 r3 r4 r5 HO1 HO HD HB HA HBA HCj HB1 HT HD3 HB3 HKEY HWF HNL
        go_wp2_with fail
        exact ⟨⟨j + 1, _, by omega, by go_num, HO3, by rw [HN2.out]; exact HD5, HB5⟩, by simp [intOf]; omega⟩
    · have hji : ¬ (j : Int) < (l.length : Int) := by omega
      obtain rfl : j = l.length := by omega
      rw [List.take_length] at HD
      clear HE HC HZ
      go_wp2_with fail
      go_ret
      exact ⟨rfl, D, HO.out, HD.out, HB.out⟩
def threeOf (x : PrizeD) := (x.d, x.c, x.r)
set_option maxHeartbeats 4000000 in
set_option maxRecDepth 100000 in
theorem counts_prize {l : List PrizeD} (g : Nat) (eg : ∀ args w, (callFunc g args).run Tryz.prog w = .ok (.enter g args) w) {p : Option Addr} {cap : Nat} {w : World} {Q : Nat → Prop} (h : FlatIn w Q 4 PrizeD.cells l p cap) (hl : l.length ≤ 1000000)
    (hcall : ∀ (W : World) (x : PrizeD), Calls Tryz.prog g #[.agg #[.int .i64 x.d, .int .i64 x.c, .int .i64 x.r, .int .i64 x.a]] W fun e w' => e = .returned (.agg #[.int .i64 x.d, .int .i64 x.c, .int .i64 x.r]) ∧ Below W.heap.size W w') (hwf : ∀ x ∈ l, WfT (threeOf x)) :
    Calls Tryz.prog 154 #[.slice p l.length cap, .func (Fn.func g) #[] #[]] w fun e w' => ∃ D, e = .returned (.map (some w.heap.size)) ∧ w'.ownsMap Tryz.prog 143 (plainElem (H := Unit) Tryz.prog 3) w.heap.size l.length D ∧ CntK threeK WfT D (l.map threeOf) ∧ Below w.heap.size w w' := by
  have hmm := @run_makeMap Tryz.prog
  obtain ⟨b, off, hL, hcell⟩ := h
  have HE : Hid (∀ w', Below w.heap.size w w' → ∀ j (h : j < l.length), p = some ⟨b, off, none⟩ ∧ w'.cell? ⟨b, off + j * 4, none⟩ = some (.int .i64 l[j].d) ∧ w'.cell? ⟨b, off + j * 4 + 1, none⟩ = some (.int .i64 l[j].c) ∧ w'.cell? ⟨b, off + j * 4 + 2, none⟩ = some (.int .i64 l[j].r) ∧ w'.cell? ⟨b, off + j * 4 + 3, none⟩ = some (.int .i64 l[j].a)) := Lib.hid fun w' hb' j hj =>
    ⟨(hL.hb (by omega)).1, keepc hb' (hcell j hj 0 _ rfl), keepc hb' (hcell j hj 1 _ rfl), keepc hb' (hcell j hj 2 _ rfl), keepc hb' (hcell j hj 3 _ rfl)⟩
  have HC := Lib.hid hcall
  have HZ := Lib.hid hwf
  clear hL hcell hcall hwf
  go_enter Tryz.func154, Tryz.ntmps154
  go_wp2_with fail
  go_loopw [11] (fun i wr => ∃ (j : Nat) (D : DataW Unit), j ≤ l.length ∧ i = .int .i64 j ∧ Hid (wr.ownsMap Tryz.prog 143 (plainElem (H := Unit) Tryz.prog 3) w.heap.size j D) ∧ Hid (CntK threeK WfT D ((l.take j).map threeOf)) ∧ Hid (Below w.heap.size w wr)) (fun i _ => l.length - (intOf i).toNat)
  case atStart => exact ⟨0, .map [], Nat.zero_le _, rfl, Lib.hid (World.ownsMap_made _ _ _ _), Lib.hid (CntK.start _ _), Lib.hid ((Below.refl _ _).alloc (Nat.le_refl _) _)⟩
  case round =>
    obtain ⟨j, D, hj, rfl, HO, HD, HB⟩ := hrel
    by_cases hlt : j < l.length
    · have hji : (j : Int) < (l.length : Int) := by omega
      obtain ⟨rfl, y0, y1, y2, y3⟩ := HE.out _ HB.out j hlt
      have HWF := Lib.hid (HZ.out l[j] (List.getElem_mem hlt))
      have HT : Hid (((l.take (j + 1)).map threeOf) = ((l.take j).map threeOf) ++ [threeOf l[j]]) := Lib.hid (by rw [List.take_succ_eq_append_getElem hlt, List.map_append]; rfl)
      have HCj := Lib.hid (fun W => HC.out W l[j])
      have HNL : Hid (((l.take j).map threeOf).length ≤ 1000000) := Lib.hid (by rw [List.length_map, List.length_take]; omega)
      clear HE HC HZ
      generalize ((l.take j).map threeOf) = N at *
      generalize hN2 : ((l.take (j + 1)).map threeOf) = N2 at *
      have HN2 := Lib.hid hN2
      clear hN2
      generalize l[j] = x at *
      have HA := Lib.hid ((Below.refl wr.heap.size wr).alloc (Nat.le_refl _) (.cells #[.int .i64 x.d, .int .i64 x.c, .int .i64 x.r, .int .i64 x.a] 77))
      have HBA := Lib.hid (HB.out.alloc HB.out.size (.cells #[.int .i64 x.d, .int .i64 x.c, .int .i64 x.r, .int .i64 x.a] 77))
      obtain ⟨xd, xc, xr, xa⟩ := x
      simp only at *
      have HKEY : Hid (keyOf Tryz.prog 143 (.agg #[.int .i64 xd, .int .i64 xc, .int .i64 xr]) = some (threeK (xd, xc, xr))) := Lib.hid (keyThree xd xc xr HWF.out.1 HWF.out.2.1 HWF.out.2.2)
      go_upto_region 5 with (fail)
      go_region_with (go_at_fn g; (with_reducible refine (HCj.out _).mono ?_); rintro e w1 ⟨rfl, hb1⟩
                      have hb1 := bel_undrew hb1
                      have HO1 := Lib.hid ((HO.out.kept (gr_bel none HA.out) (by simp)).kept (gr_bel none hb1) (by simp))
                      have HB1 := Lib.hid (HBA.out.trans (hb1.mono HBA.out.size))
                      obtain ⟨cc, v0, st, w2, w3, D2, r1, r2, r3, r4, r5, HO3, HD3, HB3⟩ := count_step klawThree Tryz.underlying198 threeK_inj (fun _ => trivial) HO1.out HD.out (by omega) HNL.out (xd, xc, xr) HWF.out HKEY.out
                      clear hb1)
      all_goals
        have HB5 : Hid (Below w.heap.size w w3) := Lib.hid (HB1.out.trans HB3.out)
        have HD5 : Hid (CntK threeK WfT D2 N2) := Lib.hid (by rw [HT.out]; exact HD3.out)
        clear r1 r2 r3 r4 r5 HO1 HO HD HB HA HBA HCj HB1 HT HD3 HB3 HKEY HWF HNL
        go_wp2_with fail
        exact ⟨⟨j + 1, _, by omega, by go_num, HO3, by rw [HN2.out]; exact HD5, HB5⟩, by simp [intOf]; omega⟩
    · have hji : ¬ (j : Int) < (l.length : Int) := by omega
      obtain rfl : j = l.length := by omega
      rw [List.take_length] at HD
      clear HE HC HZ
      go_wp2_with fail
      go_ret
      exact ⟨rfl, D, HO.out, HD.out, HB.out⟩
end Go.Proofs.YtabdgnigmlpeaaaGreatDoor
/- No two legs between the same mats, no two prizes for the same. -/
namespace Go.Proofs.YtabdgnigmlpeaaaGreatDoor
open Go.RowKit Go.Maps Go.WideMaps

set_option maxHeartbeats 2000000 in
theorem endsOf_any (W : World) (x : LegD) : Calls Tryz.prog 79 #[.agg #[.int .i64 x.f, .int .i64 x.t, .int .i64 x.mi, .int .i64 x.ma]] W fun e w' => e = .returned (.agg #[.int .i64 x.f, .int .i64 x.t]) ∧ Below W.heap.size W w' := by
  have HA := Lib.hid ((Below.refl W.heap.size W).alloc (Nat.le_refl _) (.cells #[.int .i64 x.f, .int .i64 x.t, .int .i64 x.mi, .int .i64 x.ma] 72))
  obtain ⟨xf, xt, xmi, xma⟩ := x
  simp only at *
  go_enter Tryz.func79, Tryz.ntmps79
  go_wp2_with fail
  refine bodyPost_ret (v := .agg #[.int .i64 xf, .int .i64 xt]) ?_ rfl ⟨rfl, ?_⟩
  · simp [results, Tryz.results79, go_sem]
  · exact HA.out.alloc HA.out.size _
set_option maxHeartbeats 2000000 in
theorem distinct_leg {l : List LegD} {p : Option Addr} {cap : Nat} {w : World} {Q : Nat → Prop} (h : FlatIn w Q 4 LegD.cells l p cap) (hl : l.length ≤ 1000000) (hwf : ∀ x ∈ l, WfE (endsOf x)) :
    Calls Tryz.prog 78 #[.slice p l.length cap, .func (Fn.func 79) #[] #[]] w fun e w' => e = .returned (.bool (decide (l.map endsOf).Nodup)) ∧ Below w.heap.size w w' := by
  have HC := Lib.hid (counts_leg 79 (enters_of Tryz.func79 (by kernel_rfl) rfl) h hl endsOf_any hwf)
  clear h hwf
  go_enter Tryz.func78, Tryz.ntmps78
  go_wp2_with (go_at_call 92; (with_reducible refine HC.out.mono ?_); rintro e w1 ⟨D, rfl, hO, hD, hb⟩; have hlen := hO.len Tryz.underlying146; have HN := Lib.hid hD.nd; have HB := Lib.hid hb; clear hO hD hb)
  have hv : (((size D : Nat) : Int) == ((l.length : Nat) : Int)) = decide (l.map endsOf).Nodup := by
    rw [show (((size D : Nat) : Int) == ((l.length : Nat) : Int)) = decide (((size D : Nat) : Int) = ((l.length : Nat) : Int)) from rfl, decide_eq_decide, ← HN.out, List.length_map]
    omega
  rw [hv]
  go_ret
  exact ⟨rfl, HB.out⟩
set_option maxHeartbeats 2000000 in
theorem wonBy_any (W : World) (x : PrizeD) : Calls Tryz.prog 90 #[.agg #[.int .i64 x.d, .int .i64 x.c, .int .i64 x.r, .int .i64 x.a]] W fun e w' => e = .returned (.agg #[.int .i64 x.d, .int .i64 x.c, .int .i64 x.r]) ∧ Below W.heap.size W w' := by
  have HA := Lib.hid ((Below.refl W.heap.size W).alloc (Nat.le_refl _) (.cells #[.int .i64 x.d, .int .i64 x.c, .int .i64 x.r, .int .i64 x.a] 77))
  obtain ⟨xd, xc, xr, xa⟩ := x
  simp only at *
  go_enter Tryz.func90, Tryz.ntmps90
  go_wp2_with fail
  refine bodyPost_ret (v := .agg #[.int .i64 xd, .int .i64 xc, .int .i64 xr]) ?_ rfl ⟨rfl, ?_⟩
  · simp [results, Tryz.results90, go_sem]
  · exact HA.out.alloc HA.out.size _
set_option maxHeartbeats 2000000 in
theorem distinct_prize {l : List PrizeD} {p : Option Addr} {cap : Nat} {w : World} {Q : Nat → Prop} (h : FlatIn w Q 4 PrizeD.cells l p cap) (hl : l.length ≤ 1000000) (hwf : ∀ x ∈ l, WfT (threeOf x)) :
    Calls Tryz.prog 89 #[.slice p l.length cap, .func (Fn.func 90) #[] #[]] w fun e w' => e = .returned (.bool (decide (l.map threeOf).Nodup)) ∧ Below w.heap.size w w' := by
  have HC := Lib.hid (counts_prize 90 (enters_of Tryz.func90 (by kernel_rfl) rfl) h hl wonBy_any hwf)
  clear h hwf
  go_enter Tryz.func89, Tryz.ntmps89
  go_wp2_with (go_at_call 154; (with_reducible refine HC.out.mono ?_); rintro e w1 ⟨D, rfl, hO, hD, hb⟩; have hlen := hO.len Tryz.underlying198; have HN := Lib.hid hD.nd; have HB := Lib.hid hb; clear hO hD hb)
  have hv : (((size D : Nat) : Int) == ((l.length : Nat) : Int)) = decide (l.map threeOf).Nodup := by
    rw [show (((size D : Nat) : Int) == ((l.length : Nat) : Int)) = decide (((size D : Nat) : Int) = ((l.length : Nat) : Int)) from rfl, decide_eq_decide, ← HN.out, List.length_map]
    omega
  rw [hv]
  go_ret
  exact ⟨rfl, HB.out⟩
end Go.Proofs.YtabdgnigmlpeaaaGreatDoor
/- connected: each mat of a route follows the one before by a leg. -/
namespace Go.Proofs.YtabdgnigmlpeaaaGreatDoor
open Go.RowKit Go.Maps Go.WideMaps

/-- Between each two neighbours of a route there is a leg. -/
def connE (N : List (Int × Int)) : List Int → Bool
  | a :: b :: r => !(N.count (a, b) == 0) && connE N (b :: r)
  | _ => true
theorem connE_one (N : List (Int × Int)) {l : List Int} (h : l.length = 1) : connE N l = true := by
  match l, h with
  | [a], _ => rfl
/-- How many legs go from a to b, looked up. -/
theorem legs_look {w : World} {bm n : Nat} {D : DataW Unit} {N : List (Int × Int)} (h : w.ownsMap Tryz.prog 132 (plainElem (H := Unit) Tryz.prog 3) bm n D) (hD : CntK endsK WfE D N) (a b : Int) (wa : WfI a) (wb : WfI b) :
    (Instr.lookup 146 (.map (some bm)) (.agg #[.int .i64 a, .int .i64 b]) false).run Tryz.prog w = .ok (.int .i64 (N.count (a, b) : Nat)) w := by
  obtain ⟨cc, hrun, hat, -⟩ := h.lookup_int lawEnds Tryz.underlying146 Tryz.underlying3 (zeroI _) (keyEnds a b wa wb)
  have h2 := hD.at' (a, b) ⟨wa, wb⟩
  rw [hat] at h2
  simp only [DataW.lit.injEq, Lit.int.injEq, true_and] at h2
  rw [hrun, h2]
set_option maxHeartbeats 4000000 in
theorem connected_any (route : List Int) (hne : 2 ≤ route.length) (k rc : Nat) (hrc : route.length ≤ rc) (hrc2 : rc ≤ 9223372036854775807) {bm n : Nat} {D : DataW Unit} {N : List (Int × Int)} (w : World) (hr : ∀ i (h : i < route.length), w.cell? ⟨k, i, none⟩ = some (.int .i64 route[i])) (hl : route.length ≤ 1000000)
    (hO : w.ownsMap Tryz.prog 132 (plainElem (H := Unit) Tryz.prog 3) bm n D) (hD : CntK endsK WfE D N) (hin : ∀ r ∈ route, WfI r) :
    Calls Tryz.prog 160 #[.slice (some ⟨k, 0, none⟩) route.length rc, .map (some bm)] w fun e w' => e = .returned (.bool (connE N route)) ∧ Below w.heap.size w w' := by
  have HB0 := Lib.hid (Below.refl w.heap.size w)
  obtain ⟨T, hT⟩ : ∃ T, connE N route = T := ⟨_, rfl⟩
  rw [hT]
  have H0 : Hid (connE N (route.drop 0) = T) := Lib.hid (by rw [List.drop_zero]; exact hT)
  have HE : Hid (∀ j (h : j + 1 < route.length), w.cell? ⟨k, j, none⟩ = some (.int .i64 (route[j]'(by omega))) ∧ w.cell? ⟨k, 1 + j, none⟩ = some (.int .i64 route[j + 1]) ∧ (Instr.lookup 146 (.map (some bm)) (.agg #[.int .i64 (route[j]'(by omega)), .int .i64 route[j + 1]]) false).run Tryz.prog w = .ok (.int .i64 (N.count ((route[j]'(by omega)), route[j + 1]) : Nat)) w) := Lib.hid fun j hj =>
    ⟨hr j (by omega), by rw [Nat.add_comm]; exact hr (j + 1) hj, legs_look hO hD _ _ (hin _ (List.getElem_mem _)) (hin _ (List.getElem_mem _))⟩
  have hi1 : (1 : Int) ≤ (route.length : Int) := by omega
  have hi2 : (route.length : Int) ≤ (rc : Int) := by omega
  clear hT hr hO hD hin
  go_enter Tryz.func160, Tryz.ntmps160
  go_wp2_with fail
  go_loopw [10] (fun i wr => ∃ j : Nat, j + 1 ≤ route.length ∧ i = .int .i64 j ∧ Hid (connE N (route.drop j) = T) ∧ wr = w) (fun i _ => route.length - (intOf i).toNat)
  case atStart => exact ⟨0, by omega, rfl, H0, rfl⟩
  case round =>
    obtain ⟨j, hj, rfl, HI, rfl⟩ := hrel
    clear H0
    by_cases hlt : j + 1 < route.length
    · have hji : (j : Int) < ((route.length - 1 : Nat) : Int) := by omega
      have hji2 : (j : Int) < (route.length : Int) := by omega
      obtain ⟨c1, c2, c3⟩ := HE.out j hlt
      have hI := HI.out
      rw [(List.getElem_cons_drop (show j < route.length by omega)).symm, (List.getElem_cons_drop hlt).symm, connE] at hI
      rw [List.getElem_cons_drop hlt] at hI
      clear HE HI
      generalize N.count ((route[j]'(by omega)), route[j + 1]) = m at *
      generalize route[j]'(by omega) = xa at *
      generalize route[j + 1] = xb at *
      by_cases hm : m = 0
      · subst hm
        have hT : T = false := by rw [← hI]; rfl
        subst hT
        clear hI
        go_wp2_with fail
        go_ret
        exact ⟨rfl, HB0.out⟩
      · have hb : ((m : Int) == 0) = false := by simpa using hm
        have HI2 : Hid (connE N (route.drop (j + 1)) = T) := Lib.hid (by rw [← hI]; simp [hm])
        clear hI
        go_wp2_with fail
        go_round
        case rel => exact ⟨j + 1, by omega, by go_num, HI2, trivial⟩
        case measure => simp [intOf]; omega
    · have hji : ¬ (j : Int) < ((route.length - 1 : Nat) : Int) := by omega
      have hT : T = true := by
        have hd : (route.drop j).length = 1 := by rw [List.length_drop]; omega
        have := HI.out
        rw [connE_one N hd] at this
        exact this.symm
      subst hT
      clear HE HI
      go_wp2_with fail
      go_ret
      exact ⟨rfl, HB0.out⟩
end Go.Proofs.YtabdgnigmlpeaaaGreatDoor
/- The closures of distanceRouted. -/
namespace Go.Proofs.YtabdgnigmlpeaaaGreatDoor
open Go.RowKit Go.Maps Go.WideMaps

/-- How often a route passes a mat, looked up. -/
theorem pass_look {w : World} {bm n : Nat} {D : DataW Unit} {R : List Int} (h : w.ownsMap Tryz.prog 3 (plainElem (H := Unit) Tryz.prog 3) bm n D) (hD : CntI D R) (a : Int) (wa : WfI a) :
    (Instr.lookup 68 (.map (some bm)) (.int .i64 a) false).run Tryz.prog w = .ok (.int .i64 (R.count a : Nat)) w := by
  obtain ⟨cc, hrun, hat, -⟩ := h.lookup_int lawI Tryz.underlying68 Tryz.underlying3 (zeroI _) (keyOf_int_mk Tryz.underlying3 wa)
  have h2 := hD.at' a
  rw [hat] at h2
  simp only [DataW.lit.injEq, Lit.int.injEq, true_and] at h2
  rw [hrun, h2]
theorem rt1_any (W : World) (x : Int) : Calls Tryz.prog 157 #[.int .i64 x] W fun e w' => e = .returned (.int .i64 x) ∧ Below W.heap.size W w' := by
  go_enter Tryz.func157, Tryz.ntmps157
  go_wp2_with fail
  go_ret
  exact ⟨rfl, Below.refl _ _⟩
set_option maxHeartbeats 1000000 in
theorem rt3_any (W : World) (x : CutD) (pb bp n : Nat) {D : DataW Unit} {R : List Int} (hp : W.cell? ⟨pb, 0, none⟩ = some (.map (some bp))) (h : W.ownsMap Tryz.prog 3 (plainElem (H := Unit) Tryz.prog 3) bp n D) (hD : CntI D R) (wa : WfI x.m) :
    Calls Tryz.prog 161 #[.agg #[.int .i64 x.m, .int .i64 x.l, .int .i64 x.li], .pointer (some ⟨pb, 0, none⟩)] W fun e w' => e = .returned (.bool (decide (x.l ≤ (R.count x.m : Nat)))) ∧ Below W.heap.size W w' := by
  have hA := (Below.refl W.heap.size W).alloc (Nat.le_refl _) (.cells #[.int .i64 x.m, .int .i64 x.l, .int .i64 x.li] 74)
  have c0 := keepc hA hp
  have HL := pass_look (h.alloc (.cells #[.int .i64 x.m, .int .i64 x.l, .int .i64 x.li] 74)) hD x.m wa
  have HA := Lib.hid hA
  clear hp h hD wa hA
  obtain ⟨xm, xl, xi⟩ := x
  simp only at *
  generalize R.count xm = m at *
  go_enter Tryz.func161, Tryz.ntmps161
  go_wp2_with fail
  go_ret
  exact ⟨rfl, HA.out⟩
set_option maxHeartbeats 1000000 in
set_option maxRecDepth 100000 in
theorem rt2_any (W : World) (a : Int) (pm pp pl bp bl n n2 : Nat) {D D2 : DataW Unit} {R : List Int} {N : List (Int × Int)} {Q : Nat → Prop} {mats : List MatD} {p : Option Addr} {cap : Nat}
    (h1 : W.cell? ⟨pm, 0, none⟩ = some (.slice p mats.length cap)) (h2 : W.cell? ⟨pp, 0, none⟩ = some (.map (some bp))) (h3 : W.cell? ⟨pl, 0, none⟩ = some (.map (some bl)))
    (hm : FlatIn W Q 2 MatD.cells mats p cap) (hP : W.ownsMap Tryz.prog 3 (plainElem (H := Unit) Tryz.prog 3) bp n D) (hD : CntI D R) (hL : W.ownsMap Tryz.prog 132 (plainElem (H := Unit) Tryz.prog 3) bl n2 D2) (hN : CntK endsK WfE D2 N)
    (ha : 0 ≤ a ∧ a < (mats.length : Int)) (wa : WfI a) (_ : mats.length ≤ 1000000) :
    Calls Tryz.prog 158 #[.int .i64 a, .pointer (some ⟨pm, 0, none⟩), .pointer (some ⟨pp, 0, none⟩), .pointer (some ⟨pl, 0, none⟩)] W fun e w' => e = .returned (.bool (kindM mats a == 2 && (decide ((0 : Int) < (R.count a : Nat)) && decide ((0 : Int) < (N.count (a, a) : Nat))))) ∧ Below W.heap.size W w' := by
  have HB := Lib.hid (Below.refl W.heap.size W)
  have k1 := pass_look hP hD a wa
  have k2 := legs_look hL hN a a wa wa
  obtain ⟨b, off, hl, hcell⟩ := hm
  obtain ⟨m, hm⟩ : ∃ m : Nat, a = (m : Int) := ⟨a.toNat, by omega⟩
  subst hm
  have hmi : (m : Int) < (mats.length : Int) := ha.2
  have hml2 : m < mats.length := by omega
  obtain ⟨rfl, -, -⟩ := hl.hb (by omega)
  have c2 : W.cell? ⟨b, off + m * 2 + 1, none⟩ = some (.int .i64 (kindM mats (m : Int))) := by
    rw [hcell m hml2 1 _ rfl]
    unfold kindM
    simp [List.getD, hml2]
  clear hP hD hL hN hl hcell ha wa
  generalize kindM mats (m : Int) = km at *
  generalize R.count (m : Int) = r1 at *
  generalize N.count ((m : Int), (m : Int)) = r2 at *
  by_cases hk : km = 2
  · subst hk
    by_cases hr : (0 : Int) < (r1 : Int)
    · have hr2 : decide ((0 : Int) < (r1 : Int)) = true := decide_eq_true hr
      rw [hr2]
      go_enter Tryz.func158, Tryz.ntmps158
      go_wp2_with fail
      go_ret
      exact ⟨by simp, HB.out⟩
    · have hr2 : decide ((0 : Int) < (r1 : Int)) = false := decide_eq_false hr
      rw [hr2]
      go_enter Tryz.func158, Tryz.ntmps158
      go_wp2_with fail
      go_ret
      exact ⟨by simp, HB.out⟩
  · have hb : (km == 2) = false := by simpa using hk
    rw [hb]
    go_enter Tryz.func158, Tryz.ntmps158
    go_wp2_with fail
    go_ret
    exact ⟨by simp, HB.out⟩
end Go.Proofs.YtabdgnigmlpeaaaGreatDoor
/- distanceRouted. -/
namespace Go.Proofs.YtabdgnigmlpeaaaGreatDoor
open Go.RowKit Go.Maps Go.WideMaps

/-- The route of a distance is a valid one, where its numbers are in range. -/
def routeE (mats : List MatD) (N : List (Int × Int)) (d : DistD) : Bool :=
  inI 2 256 ((exPs d.r []).length : Int) && (fitK mats (((exPs d.r []).length : Int) - 1) 0 (exPs d.r []) && (connE N (exPs d.r []) && (d.cs.all (fun z => decide (z.l ≤ ((exPs d.r []).count z.m : Nat))) && (d.x == -1 || (kindM mats d.x == 2 && (decide ((0 : Int) < ((exPs d.r []).count d.x : Nat)) && decide ((0 : Int) < (N.count (d.x, d.x) : Nat))))))))
theorem cutsR_any {w : World} {Q : Nat → Prop} {l : List CutD} {p : Option Addr} {cap : Nat} (h : FlatIn w Q 3 CutD.cells l p cap) (pb bp n : Nat) {D : DataW Unit} {R : List Int} (hp : w.cell? ⟨pb, 0, none⟩ = some (.map (some bp))) (hO : w.ownsMap Tryz.prog 3 (plainElem (H := Unit) Tryz.prog 3) bp n D) (hD : CntI D R) (wf : ∀ z ∈ l, WfI z.m) :
    Calls Tryz.prog 144 #[.slice p l.length cap, .func (Fn.func 161) #[] #[.pointer (some ⟨pb, 0, none⟩)]] w fun e w' => e = .returned (.bool (l.all fun z => decide (z.l ≤ (R.count z.m : Nat)))) ∧ Below w.heap.size w w' := by
  obtain ⟨b, off, hL, hcell⟩ := h
  let z : CutD := ⟨0, 0, 0⟩
  have hz : ∀ j (h : j < l.length), l.getD j z = l[j] := fun j h => by simp [List.getD, h]
  refine allB_cut (fun z : CutD => decide (z.l ≤ ((R.count z.m : Nat) : Int))) 161 #[.pointer (some ⟨pb, 0, none⟩)] (enters_of Tryz.func161 (by kernel_rfl) rfl) l (fun j => .int .i64 (l.getD j z).m) (fun j => .int .i64 (l.getD j z).l) (fun j => .int .i64 (l.getD j z).li) p b off cap
    (fun hne => (hL.hb (by simpa using hne)).1) hL.hl w (fun hne => (hL.hb (by simpa using hne)).2.2) (fun j hj => ?_) (fun W2 j hj hW2 => ?_)
  · rw [hz j hj]
    exact ⟨hcell j hj 0 _ rfl, hcell j hj 1 _ rfl, hcell j hj 2 _ rfl⟩
  · rw [hz j hj]
    exact rt3_any W2 l[j] pb bp n (keepc hW2 hp) (hO.kept (gr_bel none hW2) (by simp)) hD (wf _ (List.getElem_mem hj))
theorem wf_in {m : Nat} (hm : m ≤ 1000000) {a : Int} (h : 0 ≤ a ∧ a < (m : Int)) : WfI a := int_wf (by omega) (by omega)
/-- What stands in distanceRouted's world. -/
structure RtW (Q : Nat → Prop) (mats : List MatD) (pm : Option Addr) (cm bl n2 : Nat) (D2 : DataW Unit) (d : DistD) (x : DLoc) (R : List Int) (k bp n : Nat) (D : DataW Unit) (B0 pb : Nat) (W : World) : Prop where
  fm : FlatIn W Q 2 MatD.cells mats pm cm
  fc : FlatIn W Q 3 CutD.cells d.cs x.pc x.cc
  fl : W.ownsMap Tryz.prog 132 (plainElem (H := Unit) Tryz.prog 3) bl n2 D2
  fp : W.ownsMap Tryz.prog 3 (plainElem (H := Unit) Tryz.prog 3) bp n D
  rt : ∀ i (h : i < R.length), W.cell? ⟨k, i, none⟩ = some (.int .i64 R[i])
  d3 : W.cell? ⟨B0, 3, none⟩ = some (.slice x.pc d.cs.length x.cc)
  d4 : W.cell? ⟨B0, 4, none⟩ = some (.int .i64 d.x)
  c1 : W.cell? ⟨B0 + 1, 0, none⟩ = some (.slice pm mats.length cm)
  c2 : W.cell? ⟨B0 + 1 + 1, 0, none⟩ = some (.map (some bl))
  cp : W.cell? ⟨pb, 0, none⟩ = some (.map (some bp))
theorem RtW.bel {Q : Nat → Prop} {mats : List MatD} {pm : Option Addr} {cm bl n2 : Nat} {D2 : DataW Unit} {d : DistD} {x : DLoc} {R : List Int} {k bp n : Nat} {D : DataW Unit} {B0 pb : Nat} {W W' : World} (h : RtW Q mats pm cm bl n2 D2 d x R k bp n D B0 pb W) (hb : Below W.heap.size W W') : RtW Q mats pm cm bl n2 D2 d x R k bp n D B0 pb W' :=
  ⟨h.fm.bel hb, h.fc.bel hb, h.fl.kept (gr_bel none hb) (by simp), h.fp.kept (gr_bel none hb) (by simp), fun i hi => keepc hb (h.rt i hi), keepc hb h.d3, keepc hb h.d4, keepc hb h.c1, keepc hb h.c2, keepc hb h.cp⟩
set_option maxHeartbeats 16000000 in
set_option maxRecDepth 100000 in
theorem routed_any {w : World} {Q : Nat → Prop} {d : DistD} {x : DLoc} (h : DistIn w Q d x) {mats : List MatD} {pm : Option Addr} {cm : Nat} (hm : FlatIn w Q 2 MatD.cells mats pm cm) (hml : mats.length ≤ 1000) {bl n2 : Nat} {D2 : DataW Unit} {N : List (Int × Int)} (hL : w.ownsMap Tryz.prog 132 (plainElem (H := Unit) Tryz.prog 3) bl n2 D2) (hN : CntK endsK WfE D2 N) (hd : distR mats.length d = true) (hlim : limD d = true) :
    Calls Tryz.prog 94 #[distV d x, .slice pm mats.length cm, .map (some bl)] w fun e w' => e = .returned (.bool (routeE mats N d)) ∧ Below w.heap.size w w' := by
  unfold distR at hd
  simp only [Bool.and_eq_true, Bool.or_eq_true, beq_iff_eq] at hd
  obtain ⟨-, hpt, hcu, hdx⟩ := hd
  unfold limD at hlim
  rw [Bool.and_eq_true, fitL_iff] at hlim
  obtain ⟨-, -, hsz⟩ := hlim
  obtain ⟨R, hR⟩ : ∃ R, exPs d.r [] = R := ⟨_, rfl⟩
  have hin := exPs_in mats.length d.r [] hpt (by simp)
  have hlen := exPs_len d.r []
  rw [hR] at hin hlen
  rw [toCds_eq, List.length_nil] at hlen
  have hwr : ∀ a ∈ R, WfI a := fun a ha => wf_in (by omega) (hin a ha)
  have hwc : ∀ z ∈ d.cs, WfI z.m := fun z hz => by
    have := List.all_eq_true.1 hcu z hz
    unfold cutR inI at this
    simp only [Bool.and_eq_true, decide_eq_true_eq] at this
    exact wf_in (m := mats.length) (by omega) (by omega)
  have hA0 := (Below.refl w.heap.size w).alloc (Nat.le_refl _) (.cells #[.string d.n, .slice x.pr d.r.length x.cr, .int .i64 d.t, .slice x.pc d.cs.length x.cc, .int .i64 d.x] 66)
  have hA1 := hA0.alloc hA0.size (.cells #[.slice pm mats.length cm] 22)
  have hA := hA1.alloc hA1.size (.cells #[.map (some bl)] 146)
  have HA := Lib.hid hA
  have NE : Hid (∀ W, Below w.heap.size w W → Calls Tryz.prog 155 #[.slice none 0 0, .slice x.pr d.r.length x.cr] W fun e w' => ∃ q k rc, e = .returned (.slice q R.length rc) ∧ Hid ((R ≠ [] → q = some ⟨k, 0, none⟩) ∧ (∀ i (h : i < R.length), w'.cell? ⟨k, i, none⟩ = some (.int .i64 R[i])) ∧ R.length ≤ rc ∧ rc ≤ 9223372036854775807) ∧ Below W.heap.size W w') := Lib.hid fun W hW => by
    refine (expanded_any mats.length (h.route.keep2 (Nat.le_refl _) (Q' := fun b => b < w.heap.size) fun b _ hb => ⟨hb, rfl⟩) W w.heap.size (.slice none 0 0) [] (fun b hb => hb) hW.size hW (World.ownsRow_nil W _ _ _) (by show max ([] : List Int).length 256 + szCs (toCds d.r) ≤ 900000; rw [toCds_eq, List.length_nil]; omega) hpt).mono fun e w' ⟨v, he, ho, hg, _⟩ => ?_
    replace ho : OwnI w' w.heap.size v (exPs d.r []) := ho
    rw [hR] at ho
    obtain ⟨p, cap, b, h1, h2, h3, h4⟩ := OwnI.reads ho (show R.length ≤ 1000000 by omega)
    exact ⟨p, b, cap, by rw [he, h1], Lib.hid ⟨h2, h3, h4⟩, hg.os, hg.tape, hg.output, hg.size, fun k hk => hg.block k hk (by simp [Value.ownBlock])⟩
  have NC : Hid (∀ W q k rc, (R ≠ [] → q = some ⟨k, 0, none⟩) ∧ (∀ i (h : i < R.length), W.cell? ⟨k, i, none⟩ = some (.int .i64 R[i])) ∧ R.length ≤ rc ∧ rc ≤ 9223372036854775807 → Calls Tryz.prog 156 #[.slice q R.length rc, .func (Fn.func 157) #[] #[]] W fun e w' => ∃ D, e = .returned (.map (some W.heap.size)) ∧ w'.ownsMap Tryz.prog 3 (plainElem (H := Unit) Tryz.prog 3) W.heap.size R.length D ∧ CntI D R ∧ Below W.heap.size W w') := Lib.hid fun W q k rc hr =>
    counts_int 157 (enters_of Tryz.func157 (by kernel_rfl) rfl) ⟨q, rc, k, rfl, by omega, hr.1, hr.2⟩ hwr rt1_any
  have HV : Hid (∀ w1 w2 k D, Below w.heap.size (((w.alloc (.cells #[.string d.n, .slice x.pr d.r.length x.cr, .int .i64 d.t, .slice x.pc d.cs.length x.cc, .int .i64 d.x] 66)).alloc (.cells #[.slice pm mats.length cm] 22)).alloc (.cells #[.map (some bl)] 146)) w1 → Below (((w.alloc (.cells #[.string d.n, .slice x.pr d.r.length x.cr, .int .i64 d.t, .slice x.pc d.cs.length x.cc, .int .i64 d.x] 66)).alloc (.cells #[.slice pm mats.length cm] 22)).alloc (.cells #[.map (some bl)] 146)).heap.size (((w.alloc (.cells #[.string d.n, .slice x.pr d.r.length x.cr, .int .i64 d.t, .slice x.pc d.cs.length x.cc, .int .i64 d.x] 66)).alloc (.cells #[.slice pm mats.length cm] 22)).alloc (.cells #[.map (some bl)] 146)) w1 → (∀ i (h : i < R.length), w1.cell? ⟨k, i, none⟩ = some (.int .i64 R[i])) → Below w1.heap.size w1 w2 → w2.ownsMap Tryz.prog 3 (plainElem (H := Unit) Tryz.prog 3) w1.heap.size R.length D →
      RtW Q mats pm cm bl n2 D2 d x R k w1.heap.size R.length D w.heap.size w2.heap.size (w2.alloc (.cells #[.map (some w1.heap.size)] 68))) := Lib.hid fun w1 w2 k D hb0 hb1 hr hb2 hO => by
    have hb3 := hb2.alloc hb2.size (.cells #[.map (some w1.heap.size)] 68)
    have hb4 : Below w.heap.size w (w2.alloc (.cells #[.map (some w1.heap.size)] 68)) := hA.trans (hb0.trans (hb3.mono (by have := hA.size; have := hb0.size; omega)))
    have hb5 := hb1.trans (hb3.mono hb1.size)
    exact ⟨hm.bel hb4, h.cuts.bel hb4, hL.kept (gr_bel none hb4) (by simp), hO.kept (gr_bel none ((Below.refl w2.heap.size w2).alloc (Nat.le_refl _) _)) (by simp), fun i hi => keepc hb3 (hr i hi), keepc hb5 (by simp [go_sem]), keepc hb5 (by simp [go_sem]), keepc hb5 (by simp [go_sem]), keepc hb5 (by simp [go_sem]), by simp [go_sem]⟩
  have N2 : Hid (∀ W k, W.heap.size = k → Calls Tryz.prog 51 #[.int .i64 2, .int .i64 256, .slice (some ⟨k, 0, none⟩) 1 1] (W.alloc (.cells #[.int .i64 (R.length : Int)] 3)) fun e w' => e = .returned (.bool (inI 2 256 (R.length : Int))) ∧ Below W.heap.size W w') := Lib.hid fun W k hk => w1_any 2 256 _ W k hk
  have N3 : Hid (∀ W q k rc bp n D pb, (R ≠ [] → q = some ⟨k, 0, none⟩) → RtW Q mats pm cm bl n2 D2 d x R k bp n D w.heap.size pb W → Calls Tryz.prog 159 #[.slice q R.length rc, .slice pm mats.length cm] W fun e w' => e = .returned (.bool (fitK mats ((R.length : Int) - 1) 0 R)) ∧ Below W.heap.size W w') := Lib.hid fun W q k rc bp n D pb hq hW => kindsFit_any _ q k rc hq W hW.rt (by omega) hW.fm hin
  have N4 : Hid (∀ W q k rc bp n D pb, (R ≠ [] → q = some ⟨k, 0, none⟩) → R.length ≤ rc → rc ≤ 9223372036854775807 → inI 2 256 (R.length : Int) = true → RtW Q mats pm cm bl n2 D2 d x R k bp n D w.heap.size pb W → Calls Tryz.prog 160 #[.slice q R.length rc, .map (some bl)] W fun e w' => e = .returned (.bool (connE N R)) ∧ Below W.heap.size W w') := Lib.hid fun W q k rc bp n D pb hq h1 h2 h3 hW => by
    unfold inI at h3
    simp only [Bool.and_eq_true, decide_eq_true_eq] at h3
    obtain rfl := hq (by intro e; rw [e] at h3; simp at h3)
    exact connected_any _ (by omega) k rc h1 h2 W hW.rt (by omega) hW.fl hN hwr
  have N5 : Hid (∀ W k bp n D pb, CntI D R → RtW Q mats pm cm bl n2 D2 d x R k bp n D w.heap.size pb W → Calls Tryz.prog 144 #[.slice x.pc d.cs.length x.cc, .func (Fn.func 161) #[] #[.pointer (some ⟨pb, 0, none⟩)]] W fun e w' => e = .returned (.bool (d.cs.all fun z => decide (z.l ≤ (R.count z.m : Nat)))) ∧ Below W.heap.size W w') := Lib.hid fun W k bp n D pb hD hW => cutsR_any hW.fc pb bp n hW.cp hW.fp hD hwc
  have N6 : Hid (∀ W k bp n D pb, CntI D R → (d.x == -1) = false → RtW Q mats pm cm bl n2 D2 d x R k bp n D w.heap.size pb W → Calls Tryz.prog 158 #[.int .i64 d.x, .pointer (some ⟨w.heap.size + 1, 0, none⟩), .pointer (some ⟨pb, 0, none⟩), .pointer (some ⟨w.heap.size + 1 + 1, 0, none⟩)] W fun e w' => e = .returned (.bool (kindM mats d.x == 2 && (decide ((0 : Int) < (R.count d.x : Nat)) && decide ((0 : Int) < (N.count (d.x, d.x) : Nat))))) ∧ Below W.heap.size W w') := Lib.hid fun W k bp n D pb hD hx hW => by
    have hx2 : ¬ d.x = -1 := by simpa using hx
    have hx3 : 0 ≤ d.x ∧ d.x < (mats.length : Int) := by
      rcases hdx with hdx | hdx
      · exact absurd hdx hx2
      · unfold inI at hdx
        simp only [Bool.and_eq_true, decide_eq_true_eq] at hdx
        omega
    exact rt2_any W d.x _ pb _ bp bl n n2 hW.c1 hW.cp hW.c2 hW.fm hW.fp hD hW.fl hN hx3 (wf_in (by omega) hx3) (by omega)
  have hmf : ∀ (fn : Fn) (first cap : Array Value) (w : World), (Instr.makeFunc fn first cap).run Tryz.prog w = .ok (.func fn first cap) w := fun _ _ _ _ => rfl
  clear hA0 hA1 h hm hL hN hin hwr hwc hdx hcu hpt
  unfold routeE distV DistD.cells
  rw [hR]
  clear hR
  obtain ⟨dn, dr, dt, dc, dx⟩ := d
  simp only at *
  generalize hq2 : fitK mats ((R.length : Int) - 1) 0 R = q2 at *
  generalize hq3 : connE N R = q3 at *
  generalize hq4 : (dc.all fun z => decide (z.l ≤ (R.count z.m : Nat))) = q4 at *
  generalize hq5 : (kindM mats dx == 2 && (decide ((0 : Int) < (R.count dx : Nat)) && decide ((0 : Int) < (N.count (dx, dx) : Nat)))) = q5 at *
  generalize hq1 : inI 2 256 (R.length : Int) = q1 at *
  clear hq1 hq2 hq3 hq4 hq5
  have HAB := Lib.hid (Below.refl (((w.alloc (.cells #[.string dn, .slice x.pr dr.length x.cr, .int .i64 dt, .slice x.pc dc.length x.cc, .int .i64 dx] 66)).alloc (.cells #[.slice pm mats.length cm] 22)).alloc (.cells #[.map (some bl)] 146)).heap.size (((w.alloc (.cells #[.string dn, .slice x.pr dr.length x.cr, .int .i64 dt, .slice x.pc dc.length x.cc, .int .i64 dx] 66)).alloc (.cells #[.slice pm mats.length cm] 22)).alloc (.cells #[.map (some bl)] 146)))
  have hrl2 : R.length ≤ 1000 := by omega
  clear hlen hsz
  cases q1 with
  | false =>
    go_enter Tryz.func94, Tryz.ntmps94
    go_wp2_with (first
      | (go_at_call 155; (with_reducible refine (NE.out _ HA.out).mono ?_); rintro e w1 ⟨q, k, rc, rfl, hr, hb⟩; have HR := hr; have HB1 := Lib.hid (HA.out.trans (hb.mono HA.out.size)); have HB0 := Lib.hid hb; clear hb hr)
      | (go_at_call 156; (with_reducible refine (NC.out _ _ _ _ HR.out).mono ?_); rintro e w2 ⟨D, rfl, hO, hD, hb⟩; have HD := Lib.hid hD; have HW2 := Lib.hid (HV.out _ _ _ _ (HB0.out.mono (by simp; omega)) HB0.out HR.out.2.1 hb hO); have HB2 := Lib.hid ((HB1.out.trans (hb.mono HB1.out.size)).alloc (HB1.out.trans (hb.mono HB1.out.size)).size (.cells #[.map (some w1.heap.size)] 68)); clear hb hO hD)
      | (go_at_call 51; (with_reducible refine (N2.out _ _ (by simp)).mono ?_); rintro e w3 ⟨rfl, hb⟩; have HW3 := Lib.hid (HW2.out.bel hb); obtain ⟨-, -, -, -, -, z3_3, z3_4, z3_1, z3_2, z3_p⟩ := HW3.out; have HB3 := Lib.hid (HB2.out.trans (hb.mono HB2.out.size)); clear hb))
    go_ret
    exact ⟨by simp, HB3.out⟩
  | true =>
    cases q2 with
    | false =>
      go_enter Tryz.func94, Tryz.ntmps94
      go_wp2_with (first
        | (go_at_call 155; (with_reducible refine (NE.out _ HA.out).mono ?_); rintro e w1 ⟨q, k, rc, rfl, hr, hb⟩; have HR := hr; have HB1 := Lib.hid (HA.out.trans (hb.mono HA.out.size)); have HB0 := Lib.hid hb; clear hb hr)
        | (go_at_call 156; (with_reducible refine (NC.out _ _ _ _ HR.out).mono ?_); rintro e w2 ⟨D, rfl, hO, hD, hb⟩; have HD := Lib.hid hD; have HW2 := Lib.hid (HV.out _ _ _ _ (HB0.out.mono (by simp; omega)) HB0.out HR.out.2.1 hb hO); have HB2 := Lib.hid ((HB1.out.trans (hb.mono HB1.out.size)).alloc (HB1.out.trans (hb.mono HB1.out.size)).size (.cells #[.map (some w1.heap.size)] 68)); clear hb hO hD)
        | (go_at_call 51; (with_reducible refine (N2.out _ _ (by simp)).mono ?_); rintro e w3 ⟨rfl, hb⟩; have HW3 := Lib.hid (HW2.out.bel hb); obtain ⟨-, -, -, -, -, z3_3, z3_4, z3_1, z3_2, z3_p⟩ := HW3.out; have HB3 := Lib.hid (HB2.out.trans (hb.mono HB2.out.size)); clear hb)
        | (go_at_call 159; (with_reducible refine (N3.out _ _ _ _ _ _ _ _ HR.out.1 HW3.out).mono ?_); rintro e w4 ⟨rfl, hb⟩; have HW4 := Lib.hid (HW3.out.bel hb); obtain ⟨-, -, -, -, -, z4_3, z4_4, z4_1, z4_2, z4_p⟩ := HW4.out; have HB4 := Lib.hid (HB3.out.trans (hb.mono HB3.out.size)); clear hb))
      go_ret
      exact ⟨by simp, HB4.out⟩
    | true =>
      cases q3 with
      | false =>
        go_enter Tryz.func94, Tryz.ntmps94
        go_wp2_with (first
          | (go_at_call 155; (with_reducible refine (NE.out _ HA.out).mono ?_); rintro e w1 ⟨q, k, rc, rfl, hr, hb⟩; have HR := hr; have HB1 := Lib.hid (HA.out.trans (hb.mono HA.out.size)); have HB0 := Lib.hid hb; clear hb hr)
          | (go_at_call 156; (with_reducible refine (NC.out _ _ _ _ HR.out).mono ?_); rintro e w2 ⟨D, rfl, hO, hD, hb⟩; have HD := Lib.hid hD; have HW2 := Lib.hid (HV.out _ _ _ _ (HB0.out.mono (by simp; omega)) HB0.out HR.out.2.1 hb hO); have HB2 := Lib.hid ((HB1.out.trans (hb.mono HB1.out.size)).alloc (HB1.out.trans (hb.mono HB1.out.size)).size (.cells #[.map (some w1.heap.size)] 68)); clear hb hO hD)
          | (go_at_call 51; (with_reducible refine (N2.out _ _ (by simp)).mono ?_); rintro e w3 ⟨rfl, hb⟩; have HW3 := Lib.hid (HW2.out.bel hb); obtain ⟨-, -, -, -, -, z3_3, z3_4, z3_1, z3_2, z3_p⟩ := HW3.out; have HB3 := Lib.hid (HB2.out.trans (hb.mono HB2.out.size)); clear hb)
          | (go_at_call 159; (with_reducible refine (N3.out _ _ _ _ _ _ _ _ HR.out.1 HW3.out).mono ?_); rintro e w4 ⟨rfl, hb⟩; have HW4 := Lib.hid (HW3.out.bel hb); obtain ⟨-, -, -, -, -, z4_3, z4_4, z4_1, z4_2, z4_p⟩ := HW4.out; have HB4 := Lib.hid (HB3.out.trans (hb.mono HB3.out.size)); clear hb)
          | (go_at_call 160; (with_reducible refine (N4.out _ _ _ _ _ _ _ _ HR.out.1 HR.out.2.2.1 HR.out.2.2.2 (by trivial) HW4.out).mono ?_); rintro e w5 ⟨rfl, hb⟩; have HW5 := Lib.hid (HW4.out.bel hb); obtain ⟨-, -, -, -, -, z5_3, z5_4, z5_1, z5_2, z5_p⟩ := HW5.out; have HB5 := Lib.hid (HB4.out.trans (hb.mono HB4.out.size)); clear hb))
        go_ret
        exact ⟨by simp, HB5.out⟩
      | true =>
        cases q4 with
        | false =>
          go_enter Tryz.func94, Tryz.ntmps94
          go_wp2_with (first
            | (go_at_call 155; (with_reducible refine (NE.out _ HA.out).mono ?_); rintro e w1 ⟨q, k, rc, rfl, hr, hb⟩; have HR := hr; have HB1 := Lib.hid (HA.out.trans (hb.mono HA.out.size)); have HB0 := Lib.hid hb; clear hb hr)
            | (go_at_call 156; (with_reducible refine (NC.out _ _ _ _ HR.out).mono ?_); rintro e w2 ⟨D, rfl, hO, hD, hb⟩; have HD := Lib.hid hD; have HW2 := Lib.hid (HV.out _ _ _ _ (HB0.out.mono (by simp; omega)) HB0.out HR.out.2.1 hb hO); have HB2 := Lib.hid ((HB1.out.trans (hb.mono HB1.out.size)).alloc (HB1.out.trans (hb.mono HB1.out.size)).size (.cells #[.map (some w1.heap.size)] 68)); clear hb hO hD)
            | (go_at_call 51; (with_reducible refine (N2.out _ _ (by simp)).mono ?_); rintro e w3 ⟨rfl, hb⟩; have HW3 := Lib.hid (HW2.out.bel hb); obtain ⟨-, -, -, -, -, z3_3, z3_4, z3_1, z3_2, z3_p⟩ := HW3.out; have HB3 := Lib.hid (HB2.out.trans (hb.mono HB2.out.size)); clear hb)
            | (go_at_call 159; (with_reducible refine (N3.out _ _ _ _ _ _ _ _ HR.out.1 HW3.out).mono ?_); rintro e w4 ⟨rfl, hb⟩; have HW4 := Lib.hid (HW3.out.bel hb); obtain ⟨-, -, -, -, -, z4_3, z4_4, z4_1, z4_2, z4_p⟩ := HW4.out; have HB4 := Lib.hid (HB3.out.trans (hb.mono HB3.out.size)); clear hb)
            | (go_at_call 160; (with_reducible refine (N4.out _ _ _ _ _ _ _ _ HR.out.1 HR.out.2.2.1 HR.out.2.2.2 (by trivial) HW4.out).mono ?_); rintro e w5 ⟨rfl, hb⟩; have HW5 := Lib.hid (HW4.out.bel hb); obtain ⟨-, -, -, -, -, z5_3, z5_4, z5_1, z5_2, z5_p⟩ := HW5.out; have HB5 := Lib.hid (HB4.out.trans (hb.mono HB4.out.size)); clear hb)
            | (go_at_call 144; (with_reducible refine (N5.out _ _ _ _ _ _ HD.out HW5.out).mono ?_); rintro e w6 ⟨rfl, hb⟩; have HW6 := Lib.hid (HW5.out.bel hb); obtain ⟨-, -, -, -, -, z6_3, z6_4, z6_1, z6_2, z6_p⟩ := HW6.out; have HB6 := Lib.hid (HB5.out.trans (hb.mono HB5.out.size)); clear hb))
          go_ret
          exact ⟨by simp, HB6.out⟩
        | true =>
          by_cases hx : dx = -1
          · subst hx
            go_enter Tryz.func94, Tryz.ntmps94
            go_wp2_with (first
              | (go_at_call 155; (with_reducible refine (NE.out _ HA.out).mono ?_); rintro e w1 ⟨q, k, rc, rfl, hr, hb⟩; have HR := hr; have HB1 := Lib.hid (HA.out.trans (hb.mono HA.out.size)); have HB0 := Lib.hid hb; clear hb hr)
              | (go_at_call 156; (with_reducible refine (NC.out _ _ _ _ HR.out).mono ?_); rintro e w2 ⟨D, rfl, hO, hD, hb⟩; have HD := Lib.hid hD; have HW2 := Lib.hid (HV.out _ _ _ _ (HB0.out.mono (by simp; omega)) HB0.out HR.out.2.1 hb hO); have HB2 := Lib.hid ((HB1.out.trans (hb.mono HB1.out.size)).alloc (HB1.out.trans (hb.mono HB1.out.size)).size (.cells #[.map (some w1.heap.size)] 68)); clear hb hO hD)
              | (go_at_call 51; (with_reducible refine (N2.out _ _ (by simp)).mono ?_); rintro e w3 ⟨rfl, hb⟩; have HW3 := Lib.hid (HW2.out.bel hb); obtain ⟨-, -, -, -, -, z3_3, z3_4, z3_1, z3_2, z3_p⟩ := HW3.out; have HB3 := Lib.hid (HB2.out.trans (hb.mono HB2.out.size)); clear hb)
              | (go_at_call 159; (with_reducible refine (N3.out _ _ _ _ _ _ _ _ HR.out.1 HW3.out).mono ?_); rintro e w4 ⟨rfl, hb⟩; have HW4 := Lib.hid (HW3.out.bel hb); obtain ⟨-, -, -, -, -, z4_3, z4_4, z4_1, z4_2, z4_p⟩ := HW4.out; have HB4 := Lib.hid (HB3.out.trans (hb.mono HB3.out.size)); clear hb)
              | (go_at_call 160; (with_reducible refine (N4.out _ _ _ _ _ _ _ _ HR.out.1 HR.out.2.2.1 HR.out.2.2.2 (by trivial) HW4.out).mono ?_); rintro e w5 ⟨rfl, hb⟩; have HW5 := Lib.hid (HW4.out.bel hb); obtain ⟨-, -, -, -, -, z5_3, z5_4, z5_1, z5_2, z5_p⟩ := HW5.out; have HB5 := Lib.hid (HB4.out.trans (hb.mono HB4.out.size)); clear hb)
              | (go_at_call 144; (with_reducible refine (N5.out _ _ _ _ _ _ HD.out HW5.out).mono ?_); rintro e w6 ⟨rfl, hb⟩; have HW6 := Lib.hid (HW5.out.bel hb); obtain ⟨-, -, -, -, -, z6_3, z6_4, z6_1, z6_2, z6_p⟩ := HW6.out; have HB6 := Lib.hid (HB5.out.trans (hb.mono HB5.out.size)); clear hb))
            go_ret
            exact ⟨by simp, HB6.out⟩
          · have HX : Hid ((dx == -1) = false) := Lib.hid (by simpa using hx)
            have hx2 := HX.out
            clear hx
            go_enter Tryz.func94, Tryz.ntmps94
            go_wp2_with (first
              | (go_at_call 155; (with_reducible refine (NE.out _ HA.out).mono ?_); rintro e w1 ⟨q, k, rc, rfl, hr, hb⟩; have HR := hr; have HB1 := Lib.hid (HA.out.trans (hb.mono HA.out.size)); have HB0 := Lib.hid hb; clear hb hr)
              | (go_at_call 156; (with_reducible refine (NC.out _ _ _ _ HR.out).mono ?_); rintro e w2 ⟨D, rfl, hO, hD, hb⟩; have HD := Lib.hid hD; have HW2 := Lib.hid (HV.out _ _ _ _ (HB0.out.mono (by simp; omega)) HB0.out HR.out.2.1 hb hO); have HB2 := Lib.hid ((HB1.out.trans (hb.mono HB1.out.size)).alloc (HB1.out.trans (hb.mono HB1.out.size)).size (.cells #[.map (some w1.heap.size)] 68)); clear hb hO hD)
              | (go_at_call 51; (with_reducible refine (N2.out _ _ (by simp)).mono ?_); rintro e w3 ⟨rfl, hb⟩; have HW3 := Lib.hid (HW2.out.bel hb); obtain ⟨-, -, -, -, -, z3_3, z3_4, z3_1, z3_2, z3_p⟩ := HW3.out; have HB3 := Lib.hid (HB2.out.trans (hb.mono HB2.out.size)); clear hb)
              | (go_at_call 159; (with_reducible refine (N3.out _ _ _ _ _ _ _ _ HR.out.1 HW3.out).mono ?_); rintro e w4 ⟨rfl, hb⟩; have HW4 := Lib.hid (HW3.out.bel hb); obtain ⟨-, -, -, -, -, z4_3, z4_4, z4_1, z4_2, z4_p⟩ := HW4.out; have HB4 := Lib.hid (HB3.out.trans (hb.mono HB3.out.size)); clear hb)
              | (go_at_call 160; (with_reducible refine (N4.out _ _ _ _ _ _ _ _ HR.out.1 HR.out.2.2.1 HR.out.2.2.2 (by trivial) HW4.out).mono ?_); rintro e w5 ⟨rfl, hb⟩; have HW5 := Lib.hid (HW4.out.bel hb); obtain ⟨-, -, -, -, -, z5_3, z5_4, z5_1, z5_2, z5_p⟩ := HW5.out; have HB5 := Lib.hid (HB4.out.trans (hb.mono HB4.out.size)); clear hb)
              | (go_at_call 144; (with_reducible refine (N5.out _ _ _ _ _ _ HD.out HW5.out).mono ?_); rintro e w6 ⟨rfl, hb⟩; have HW6 := Lib.hid (HW5.out.bel hb); obtain ⟨-, -, -, -, -, z6_3, z6_4, z6_1, z6_2, z6_p⟩ := HW6.out; have HB6 := Lib.hid (HB5.out.trans (hb.mono HB5.out.size)); clear hb)
              | (go_at_call 158; (with_reducible refine (N6.out _ _ _ _ _ _ HD.out hx2 HW6.out).mono ?_); rintro e w7 ⟨rfl, hb⟩; have HW7 := Lib.hid (HW6.out.bel hb); obtain ⟨-, -, -, -, -, z7_3, z7_4, z7_1, z7_2, z7_p⟩ := HW7.out; have HB7 := Lib.hid (HB6.out.trans (hb.mono HB6.out.size)); clear hb))
            go_ret
            exact ⟨by simp [HX.out], HB7.out⟩
end Go.Proofs.YtabdgnigmlpeaaaGreatDoor
/- The specification: which leg; the depth and the number of parts. -/
namespace Go.Proofs.YtabdgnigmlpeaaaGreatDoor
open Go.RowKit

set_option maxHeartbeats 4000000 in
set_option maxRecDepth 100000 in
theorem rleg_any {w : World} {Q : Nat → Prop} {c : Crs} {x : CLoc} (h : FlatIn w Q 4 LegD.cells c.legs x.pl x.cl) (hl : c.legs.length ≤ 1000000) (f t : Int) (W : World) (hW : Below w.heap.size w W) :
    Calls Tryz.prog 100 #[courseV c x, .int .i64 f, .int .i64 t] W fun e w' => ∃ r : Int, e = .returned (.int .i64 r) ∧ decide (r < 0) = ((c.legs.map endsOf).count (f, t) == 0) ∧ Below W.heap.size W w' := by
  have hA := (Below.refl W.heap.size W).alloc (Nat.le_refl _) (.cells (cellsC c x).toArray 33)
  have HA := Lib.hid hA
  obtain ⟨b, off, hL, hcell⟩ := (h.bel hW).bel hA
  obtain ⟨K, hK⟩ : ∃ K, (c.legs.map endsOf).count (f, t) = K := ⟨_, rfl⟩
  rw [hK]
  have H0 : Hid (((c.legs.drop 0).map endsOf).count (f, t) = K) := Lib.hid (by rw [List.drop_zero]; exact hK)
  have HE : Hid (∀ j (h : j < c.legs.length), x.pl = some ⟨b, off, none⟩ ∧ (W.alloc (.cells (cellsC c x).toArray 33)).cell? ⟨b, off + j * 4, none⟩ = some (.int .i64 c.legs[j].f) ∧ (W.alloc (.cells (cellsC c x).toArray 33)).cell? ⟨b, off + j * 4 + 1, none⟩ = some (.int .i64 c.legs[j].t)) := Lib.hid fun j hj =>
    ⟨(hL.hb (by omega)).1, hcell j hj 0 _ rfl, hcell j hj 1 _ rfl⟩
  clear h hW hA hL hcell hK
  unfold courseV
  unfold cellsC at *
  obtain ⟨pm, cm, pl, cl, pd, cd, pw, cw, po, co, pc, cc, pz, cz, pt, ct⟩ := x
  simp only at *
  go_enter Tryz.func100, Tryz.ntmps100
  go_wp2_with fail
  go_loopw [7] (fun i wr => ∃ j : Nat, j ≤ c.legs.length ∧ i = .int .i64 j ∧ Hid (((c.legs.drop j).map endsOf).count (f, t) = K) ∧ wr = W.alloc (.cells #[.string c.n, .slice pm c.mats.length cm, .slice pl c.legs.length cl, .slice pd c.dists.length cd, .slice pw c.waves.length cw, .slice po c.offs.length co, .slice pc c.cats.length cc, .slice pz c.prizes.length cz, .slice pt c.ties.length ct, .int .i64 c.fm, .int .i64 c.fs, .int .i64 c.fw, .int .i64 c.fr, .int .i64 c.fd, .int .i64 c.fee, .int .i64 c.dl] 33)) (fun i _ => c.legs.length - (intOf i).toNat)
  case atStart => exact ⟨0, Nat.zero_le _, rfl, H0, rfl⟩
  case round =>
    obtain ⟨j, hj, rfl, HI, rfl⟩ := hrel
    clear H0
    by_cases hlt : j < c.legs.length
    · have hji : (j : Int) < (c.legs.length : Int) := by omega
      obtain ⟨rfl, c1, c2⟩ := HE.out j hlt
      have hI := HI.out
      rw [(List.getElem_cons_drop hlt).symm, List.map_cons, List.count_cons] at hI
      clear HE HI
      generalize hg : c.legs[j] = g at *
      obtain ⟨gf, gt, gmi, gma⟩ := g
      simp only at *
      by_cases h1 : gf = f
      · have k1 : (gf == f) = true := by simpa using h1
        by_cases h2 : gt = t
        · have k2 : (gt == t) = true := by simpa using h2
          have HK : Hid ((K == 0) = false) := Lib.hid (by rw [← hI]; simp [endsOf, h1, h2])
          clear hI hg h1 h2
          go_wp2_with fail
          go_ret
          refine ⟨_, rfl, ?_, HA.out⟩
          rw [HK.out]
          simp
        · have k2 : (gt == t) = false := by simpa using h2
          have HI2 : Hid (((c.legs.drop (j + 1)).map endsOf).count (f, t) = K) := Lib.hid (by rw [← hI]; simp [endsOf, h2])
          clear hI hg h1 h2
          go_wp2_with fail
          go_round
          case rel => exact ⟨j + 1, by omega, by go_num, HI2, trivial⟩
          case measure => simp [intOf]; omega
      · have k1 : (gf == f) = false := by simpa using h1
        have HI2 : Hid (((c.legs.drop (j + 1)).map endsOf).count (f, t) = K) := Lib.hid (by rw [← hI]; simp [endsOf, h1])
        clear hI hg h1
        go_wp2_with fail
        go_round
        case rel => exact ⟨j + 1, by omega, by go_num, HI2, trivial⟩
        case measure => simp [intOf]; omega
    · have hji : ¬ (j : Int) < (c.legs.length : Int) := by omega
      have hK : K = 0 := by
        have := HI.out
        rw [List.drop_of_length_le (by omega)] at this
        exact this.symm
      subst hK
      clear HE HI
      go_wp2_with fail
      go_ret
      exact ⟨_, rfl, by decide, HA.out⟩
end Go.Proofs.YtabdgnigmlpeaaaGreatDoor
