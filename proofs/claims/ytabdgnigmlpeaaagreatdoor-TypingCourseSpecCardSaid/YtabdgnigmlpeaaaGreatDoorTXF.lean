/- A parameter of type Course, read out of memory. -/
import Derived.Test.YtabdgnigmlpeaaaGreatDoorTXL
import Derived.Test.YtabdgnigmlpeaaaGreatDoorTXN
import Derived.Test.YtabdgnigmlpeaaaGreatDoorTXK
import Derived.Test.YtabdgnigmlpeaaaGreatDoorTXK
import Derived.Test.YtabdgnigmlpeaaaGreatDoorTXE
import Derived.Test.YtabdgnigmlpeaaaGreatDoorTXQ
import Derived.Test.YtabdgnigmlpeaaaGreatDoorTXA
import Derived.Deep.RegionHeld3
import Derived.BigQuiet
namespace Go.Proofs.YtabdgnigmlpeaaaGreatDoor
open Go.ChangeShapes Go.WideShapes Go.ChangeAt Go.RowKit

theorem cellsS1 : Tryz.prog.cellsOf 9 = 1 := by kernel_rfl
theorem cellsI1 : Tryz.prog.cellsOf 3 = 1 := by kernel_rfl
theorem cellsB1 : Tryz.prog.cellsOf 4 = 1 := by kernel_rfl
set_option maxRecDepth 100000 in
/-- A slice of elements that read as encA. -/
theorem open_flat {α : Type} (encA : α → List Value) (z : α) (R : α → Prop) {k nb : Nat} {t e : TypeId} (ht : Tryz.prog.underlying t = some (.slice e)) (hk : Tryz.prog.cellsOf e = k) (hnb : Tryz.prog.bytesOf e = nb) (h24 : 24 ≤ nb) (hk0 : 1 ≤ k) (hlen : ∀ x, (encA x).length = k)
    {fuel : Nat} {H : Type} {enc : TypeId × Value → H} {W : World} {cs : List Value} {x : DataW H × List MemPlace}
    (ih : ∀ n, n < fuel → ∀ (cs : List Value) (y : DataW H × List MemPlace), DataW.trod enc Tryz.prog W 0 (fun _ => true) true n e cs = some y → (∀ m ∈ y.1.weights Tryz.prog e, m ≤ reachBytes) → ∃ v, cs = encA v ∧ R v)
    (h : DataW.trod enc Tryz.prog W 0 (fun _ => true) true fuel t cs = some x) (hw : ∀ n ∈ x.1.weights Tryz.prog t, n ≤ reachBytes) :
    ∃ l p cap, cs = [.slice p (l : List α).length cap] ∧ FlatIn W (fun _ => True) k encA l p cap ∧ ∀ v ∈ l, R v := by
  rcases DataW.trod_slice ht h with ⟨rfl, rfl⟩ | ⟨a, len, cap, elems, rest, n, rfl, rfl, rfl, hb, hl, hm, hlen', hel, _, _⟩
  · exact ⟨[], none, 0, rfl, ⟨0, 0, ⟨by simp, by simp, by simp, fun _ => rfl, fun h => absurd rfl h⟩, fun i h => by simp at h⟩, fun v h => by cases h⟩
  · rw [DataW.weights, ht] at hw
    have hsz := hw _ (List.mem_cons_self ..)
    rw [hnb] at hsz
    simp only [List.length_map, reachBytes] at hsz
    have hsz2 := Nat.le_trans (Nat.mul_le_mul_left (elems.length + rest.length) h24) hsz
    have hlen2 : len ≤ 6000000000000 := by omega
    have key : ∀ i : Nat, ∃ v : α, i < len → W.cells? 0 (a.add (i * k)) k = some (encA v) ∧ R v := by
      intro i
      by_cases hi : i < len
      · have h1 := hel i hi
        rw [hk, List.getElem?_eq_getElem (by omega)] at h1
        obtain ⟨cs', h2, h3⟩ := Option.bind_eq_some_iff.1 h1
        obtain ⟨v, rfl, hv⟩ := ih n (by omega) cs' _ h3 fun m hmem => by
          refine hw m (List.mem_cons_of_mem _ (List.mem_append_left _ ?_))
          exact weightsAll_mem Tryz.prog e _ _ (List.mem_map.2 ⟨_, List.getElem_mem _, rfl⟩) m hmem
        exact ⟨v, fun _ => ⟨h2, hv⟩⟩
      · exact ⟨z, fun h => absurd h hi⟩
    obtain ⟨f, hf⟩ := Classical.axiomOfChoice key
    have hll : ((List.range len).map f).length = len := by simp
    refine ⟨(List.range len).map f, some a, cap, by rw [hll], ?_, fun v hv => ?_⟩
    · obtain ⟨b, off, spot⟩ := a
      by_cases h0 : len = 0
      · subst h0
        exact ⟨0, 0, ⟨by simp, by simp, by unfold maxLen at hm; omega, fun e => (by cases e), fun h => absurd rfl h⟩, fun i h => by simp at h⟩
      · have hc0 := World.cells?_some (hf 0 (by omega)).1
        have hc00 := hc0.2.2 0 (by omega)
        rw [List.getElem?_eq_getElem (show 0 < (encA (f 0)).length by rw [hlen]; omega)] at hc00
        have hspot : spot = none := by simpa [Addr.add] using World.cell?_spot hc00
        subst hspot
        have hblk := World.block_lt_of_cell? _ _ hc00
        rw [addr_add, addr_add] at hblk
        refine ⟨b, off, ⟨by rw [hll]; exact hlen2, by rw [hll]; exact hl, by unfold maxLen at hm; omega, fun e => (by cases e), fun _ => ⟨rfl, trivial, hblk⟩⟩, fun i hi j u hu => ?_⟩
        rw [hll] at hi
        simp only [List.getElem_map, List.getElem_range] at hu
        have hj : j < k := by have := (List.getElem?_eq_some_iff.1 hu).1; rwa [hlen] at this
        have hci := (World.cells?_some (hf i hi).1).2.2 j hj
        rw [addr_add, addr_add] at hci
        rw [hci]
        exact hu
    · obtain ⟨i, hi, rfl⟩ := List.mem_map.1 hv
      exact (hf i (List.mem_range.1 hi)).2

theorem cells_mat : Tryz.prog.cellsOf 70 = 2 := by kernel_rfl
theorem bytes_mat : Tryz.prog.bytesOf 70 = 24 := by kernel_rfl
set_option maxRecDepth 100000 in
theorem open_mat {H : Type} {enc : TypeId × Value → H} {W : World} {n : Nat} {cs : List Value} {y : DataW H × List MemPlace} (h : DataW.trod enc Tryz.prog W 0 (fun _ => true) true n 70 cs = some y) : ∃ v : MatD, cs = v.cells ∧ v.n.size ≤ maxLen := by
  obtain ⟨xs, m, rfl, rfl, hl, hxl, hg⟩ := DataW.trod_struct Tryz.underlying70 h
  rw [cells_mat] at hl
  match cs, hl with
  | [u0, u1], _ =>
    have g0 := hg 0 _ rfl
    have g1 := hg 1 _ rfl
    match xs, hxl with
    | [y0, y1], _ =>
      simp [cellsI1, cellsS1] at g0 g1
      obtain ⟨n0, e0, _, w0⟩ := DataW.trod_string Tryz.underlying9 g0
      obtain ⟨n1, e1, _, w1⟩ := DataW.trod_int Tryz.underlying3 g1
      have e0' : u0 = .string n0 := by simpa using e0
      have e1' : u1 = .int .i64 n1 := by simpa using e1
      subst e0' e1'
      exact ⟨⟨n0, n1⟩, rfl, w0⟩
theorem cells_leg : Tryz.prog.cellsOf 72 = 4 := by kernel_rfl
theorem bytes_leg : Tryz.prog.bytesOf 72 = 32 := by kernel_rfl
set_option maxRecDepth 100000 in
theorem open_leg {H : Type} {enc : TypeId × Value → H} {W : World} {n : Nat} {cs : List Value} {y : DataW H × List MemPlace} (h : DataW.trod enc Tryz.prog W 0 (fun _ => true) true n 72 cs = some y) : ∃ v : LegD, cs = v.cells ∧ WfE (endsOf v) := by
  obtain ⟨xs, m, rfl, rfl, hl, hxl, hg⟩ := DataW.trod_struct Tryz.underlying72 h
  rw [cells_leg] at hl
  match cs, hl with
  | [u0, u1, u2, u3], _ =>
    have g0 := hg 0 _ rfl
    have g1 := hg 1 _ rfl
    have g2 := hg 2 _ rfl
    have g3 := hg 3 _ rfl
    match xs, hxl with
    | [y0, y1, y2, y3], _ =>
      simp [cellsI1] at g0 g1 g2 g3
      obtain ⟨n0, e0, _, w0⟩ := DataW.trod_int Tryz.underlying3 g0
      obtain ⟨n1, e1, _, w1⟩ := DataW.trod_int Tryz.underlying3 g1
      obtain ⟨n2, e2, _, w2⟩ := DataW.trod_int Tryz.underlying3 g2
      obtain ⟨n3, e3, _, w3⟩ := DataW.trod_int Tryz.underlying3 g3
      have e0' : u0 = .int .i64 n0 := by simpa using e0
      have e1' : u1 = .int .i64 n1 := by simpa using e1
      have e2' : u2 = .int .i64 n2 := by simpa using e2
      have e3' : u3 = .int .i64 n3 := by simpa using e3
      subst e0' e1' e2' e3'
      exact ⟨⟨n0, n1, n2, n3⟩, rfl, w0, w1⟩
theorem cells_cut : Tryz.prog.cellsOf 74 = 3 := by kernel_rfl
theorem bytes_cut : Tryz.prog.bytesOf 74 = 24 := by kernel_rfl
set_option maxRecDepth 100000 in
theorem open_cut {H : Type} {enc : TypeId × Value → H} {W : World} {n : Nat} {cs : List Value} {y : DataW H × List MemPlace} (h : DataW.trod enc Tryz.prog W 0 (fun _ => true) true n 74 cs = some y) : ∃ v : CutD, cs = v.cells := by
  obtain ⟨xs, m, rfl, rfl, hl, hxl, hg⟩ := DataW.trod_struct Tryz.underlying74 h
  rw [cells_cut] at hl
  match cs, hl with
  | [u0, u1, u2], _ =>
    have g0 := hg 0 _ rfl
    have g1 := hg 1 _ rfl
    have g2 := hg 2 _ rfl
    match xs, hxl with
    | [y0, y1, y2], _ =>
      simp [cellsI1] at g0 g1 g2
      obtain ⟨n0, e0, _, w0⟩ := DataW.trod_int Tryz.underlying3 g0
      obtain ⟨n1, e1, _, w1⟩ := DataW.trod_int Tryz.underlying3 g1
      obtain ⟨n2, e2, _, w2⟩ := DataW.trod_int Tryz.underlying3 g2
      have e0' : u0 = .int .i64 n0 := by simpa using e0
      have e1' : u1 = .int .i64 n1 := by simpa using e1
      have e2' : u2 = .int .i64 n2 := by simpa using e2
      subst e0' e1' e2'
      exact ⟨⟨n0, n1, n2⟩, rfl⟩
theorem cells_wave : Tryz.prog.cellsOf 81 = 2 := by kernel_rfl
theorem bytes_wave : Tryz.prog.bytesOf 81 = 24 := by kernel_rfl
set_option maxRecDepth 100000 in
theorem open_wave {H : Type} {enc : TypeId × Value → H} {W : World} {n : Nat} {cs : List Value} {y : DataW H × List MemPlace} (h : DataW.trod enc Tryz.prog W 0 (fun _ => true) true n 81 cs = some y) : ∃ v : WaveD, cs = v.cells ∧ v.n.size ≤ maxLen := by
  obtain ⟨xs, m, rfl, rfl, hl, hxl, hg⟩ := DataW.trod_struct Tryz.underlying81 h
  rw [cells_wave] at hl
  match cs, hl with
  | [u0, u1], _ =>
    have g0 := hg 0 _ rfl
    have g1 := hg 1 _ rfl
    match xs, hxl with
    | [y0, y1], _ =>
      simp [cellsI1, cellsS1] at g0 g1
      obtain ⟨n0, e0, _, w0⟩ := DataW.trod_string Tryz.underlying9 g0
      obtain ⟨n1, e1, _, w1⟩ := DataW.trod_int Tryz.underlying3 g1
      have e0' : u0 = .string n0 := by simpa using e0
      have e1' : u1 = .int .i64 n1 := by simpa using e1
      subst e0' e1'
      exact ⟨⟨n0, n1⟩, rfl, w0⟩
theorem cells_off : Tryz.prog.cellsOf 79 = 4 := by kernel_rfl
theorem bytes_off : Tryz.prog.bytesOf 79 = 40 := by kernel_rfl
set_option maxRecDepth 100000 in
theorem open_off {H : Type} {enc : TypeId × Value → H} {W : World} {n : Nat} {cs : List Value} {y : DataW H × List MemPlace} (h : DataW.trod enc Tryz.prog W 0 (fun _ => true) true n 79 cs = some y) : ∃ v : OffD, cs = v.cells ∧ v.n.size ≤ maxLen := by
  obtain ⟨xs, m, rfl, rfl, hl, hxl, hg⟩ := DataW.trod_struct Tryz.underlying79 h
  rw [cells_off] at hl
  match cs, hl with
  | [u0, u1, u2, u3], _ =>
    have g0 := hg 0 _ rfl
    have g1 := hg 1 _ rfl
    have g2 := hg 2 _ rfl
    have g3 := hg 3 _ rfl
    match xs, hxl with
    | [y0, y1, y2, y3], _ =>
      simp [cellsB1, cellsI1, cellsS1] at g0 g1 g2 g3
      obtain ⟨n0, e0, _, w0⟩ := DataW.trod_string Tryz.underlying9 g0
      obtain ⟨n1, e1, _, w1⟩ := DataW.trod_int Tryz.underlying3 g1
      obtain ⟨n2, e2, _, w2⟩ := DataW.trod_int Tryz.underlying3 g2
      obtain ⟨n3, e3, _⟩ := DataW.trod_bool Tryz.underlying4 g3
      have e0' : u0 = .string n0 := by simpa using e0
      have e1' : u1 = .int .i64 n1 := by simpa using e1
      have e2' : u2 = .int .i64 n2 := by simpa using e2
      have e3' : u3 = .bool n3 := by simpa using e3
      subst e0' e1' e2' e3'
      exact ⟨⟨n0, n1, n2, n3⟩, rfl, w0⟩
theorem cells_cat : Tryz.prog.cellsOf 121 = 3 := by kernel_rfl
theorem bytes_cat : Tryz.prog.bytesOf 121 = 32 := by kernel_rfl
set_option maxRecDepth 100000 in
theorem open_cat {H : Type} {enc : TypeId × Value → H} {W : World} {n : Nat} {cs : List Value} {y : DataW H × List MemPlace} (h : DataW.trod enc Tryz.prog W 0 (fun _ => true) true n 121 cs = some y) : ∃ v : CatD, cs = v.cells ∧ v.n.size ≤ maxLen := by
  obtain ⟨xs, m, rfl, rfl, hl, hxl, hg⟩ := DataW.trod_struct Tryz.underlying121 h
  rw [cells_cat] at hl
  match cs, hl with
  | [u0, u1, u2], _ =>
    have g0 := hg 0 _ rfl
    have g1 := hg 1 _ rfl
    have g2 := hg 2 _ rfl
    match xs, hxl with
    | [y0, y1, y2], _ =>
      simp [cellsI1, cellsS1] at g0 g1 g2
      obtain ⟨n0, e0, _, w0⟩ := DataW.trod_string Tryz.underlying9 g0
      obtain ⟨n1, e1, _, w1⟩ := DataW.trod_int Tryz.underlying3 g1
      obtain ⟨n2, e2, _, w2⟩ := DataW.trod_int Tryz.underlying3 g2
      have e0' : u0 = .string n0 := by simpa using e0
      have e1' : u1 = .int .i64 n1 := by simpa using e1
      have e2' : u2 = .int .i64 n2 := by simpa using e2
      subst e0' e1' e2'
      exact ⟨⟨n0, n1, n2⟩, rfl, w0⟩
theorem cells_prize : Tryz.prog.cellsOf 77 = 4 := by kernel_rfl
theorem bytes_prize : Tryz.prog.bytesOf 77 = 32 := by kernel_rfl
set_option maxRecDepth 100000 in
theorem open_prize {H : Type} {enc : TypeId × Value → H} {W : World} {n : Nat} {cs : List Value} {y : DataW H × List MemPlace} (h : DataW.trod enc Tryz.prog W 0 (fun _ => true) true n 77 cs = some y) : ∃ v : PrizeD, cs = v.cells ∧ WfT (threeOf v) := by
  obtain ⟨xs, m, rfl, rfl, hl, hxl, hg⟩ := DataW.trod_struct Tryz.underlying77 h
  rw [cells_prize] at hl
  match cs, hl with
  | [u0, u1, u2, u3], _ =>
    have g0 := hg 0 _ rfl
    have g1 := hg 1 _ rfl
    have g2 := hg 2 _ rfl
    have g3 := hg 3 _ rfl
    match xs, hxl with
    | [y0, y1, y2, y3], _ =>
      simp [cellsI1] at g0 g1 g2 g3
      obtain ⟨n0, e0, _, w0⟩ := DataW.trod_int Tryz.underlying3 g0
      obtain ⟨n1, e1, _, w1⟩ := DataW.trod_int Tryz.underlying3 g1
      obtain ⟨n2, e2, _, w2⟩ := DataW.trod_int Tryz.underlying3 g2
      obtain ⟨n3, e3, _, w3⟩ := DataW.trod_int Tryz.underlying3 g3
      have e0' : u0 = .int .i64 n0 := by simpa using e0
      have e1' : u1 = .int .i64 n1 := by simpa using e1
      have e2' : u2 = .int .i64 n2 := by simpa using e2
      have e3' : u3 = .int .i64 n3 := by simpa using e3
      subst e0' e1' e2' e3'
      exact ⟨⟨n0, n1, n2, n3⟩, rfl, w0, w1, w2⟩

/-- A part and where its parts lie. -/
def pEnc (e : Pt × Option Addr × Nat) : List Value := [.int .i64 e.1.m, .int .i64 e.1.l, .slice e.2.1 e.1.ps.length e.2.2]
theorem ptIn_of {W : World} {es : List (Pt × Option Addr × Nat)} {p : Option Addr} {cap : Nat} (h : FlatIn W (fun _ => True) 3 pEnc es p cap) (hs : ∀ v ∈ es, PtIn W (fun _ => True) v.1 v.2.1 v.2.2) (m l : Int) : PtIn W (fun _ => True) (.mk m l (es.map (·.1))) p cap := by
  obtain ⟨b, off, hL, hc⟩ := h
  have hll : (es.map (·.1)).length = es.length := by simp
  refine .mk m l _ p cap b off (fun i => (es.getD i (.zero, none, 0)).2.1) (fun i => (es.getD i (.zero, none, 0)).2.2) (by rw [hll]; exact hL.hl) (by rw [hll]; exact hL.hc) hL.hc2 hL.hp (fun hne => hL.hb (fun e => hne (by rw [List.length_eq_zero_iff] at e; rw [e]; rfl))) (fun i hi => ?_) (fun i hi => ?_)
  · rw [hll] at hi
    have e1 : es.getD i (.zero, none, 0) = es[i] := by simp [List.getD, hi]
    simp only [e1, List.getElem_map]
    exact ⟨by simpa using hc i hi 0 _ rfl, hc i hi 1 _ rfl, hc i hi 2 _ rfl⟩
  · rw [hll] at hi
    have e1 : es.getD i (.zero, none, 0) = es[i] := by simp [List.getD, hi]
    simp only [e1, List.getElem_map]
    exact hs _ (List.getElem_mem _)
theorem cells_part : Tryz.prog.cellsOf 105 = 3 := by kernel_rfl
theorem bytes_part : Tryz.prog.bytesOf 105 = 40 := by kernel_rfl
theorem cells_parts : Tryz.prog.cellsOf 63 = 1 := by kernel_rfl
set_option maxRecDepth 100000 in
theorem open_part {H : Type} {enc : TypeId × Value → H} {W : World} (n : Nat) : ∀ (cs : List Value) (y : DataW H × List MemPlace), DataW.trod enc Tryz.prog W 0 (fun _ => true) true n 105 cs = some y → (∀ m ∈ y.1.weights Tryz.prog 105, m ≤ reachBytes) → ∃ v, cs = pEnc v ∧ PtIn W (fun _ => True) v.1 v.2.1 v.2.2 := by
  induction n using Nat.strongRecOn with
  | ind fuel ih =>
    intro cs x h hw
    obtain ⟨xs, n, rfl, rfl, hl, hxl, hg⟩ := DataW.trod_struct Tryz.underlying105 h
    rw [cells_part] at hl
    match cs, hl with
    | [u0, u1, u2], _ =>
      have g0 := hg 0 _ rfl
      have g1 := hg 1 _ rfl
      have g2 := hg 2 _ rfl
      match xs, hxl with
      | [y0, y1, y2], _ =>
        simp [cellsI1, cells_parts] at g0 g1 g2
        obtain ⟨n0, e0, _, w0⟩ := DataW.trod_int Tryz.underlying3 g0
        obtain ⟨n1, e1, _, w1⟩ := DataW.trod_int Tryz.underlying3 g1
        rw [DataW.weights, Tryz.underlying105] at hw
        obtain ⟨es, p, cap, e2, hlat, hin⟩ := open_flat pEnc (.zero, none, 0) (fun v => PtIn W (fun _ => True) v.1 v.2.1 v.2.2) Tryz.underlying63 cells_part bytes_part (by decide) (by decide) (fun x => rfl) (fun m hm => ih m (by omega)) g2 fun m hm => hw m (DataW.weights_mem_each (j := 2) (t := 63) (d := y2.1) rfl rfl m hm)
        have e0' : u0 = .int .i64 n0 := by simpa using e0
        have e1' : u1 = .int .i64 n1 := by simpa using e1
        have e2' : u2 = .slice p es.length cap := by simpa using e2
        subst e0' e1' e2'
        exact ⟨(.mk n0 n1 (es.map (·.1)), p, cap), by simp [pEnc, Pt.m, Pt.l, Pt.ps], ptIn_of hlat hin n0 n1⟩
theorem cells_dist : Tryz.prog.cellsOf 66 = 5 := by kernel_rfl
theorem bytes_dist : Tryz.prog.bytesOf 66 = 80 := by kernel_rfl
theorem cells_cuts : Tryz.prog.cellsOf 64 = 1 := by kernel_rfl
set_option maxRecDepth 100000 in
theorem open_dist {H : Type} {enc : TypeId × Value → H} {W : World} {n : Nat} {cs : List Value} {y : DataW H × List MemPlace} (h : DataW.trod enc Tryz.prog W 0 (fun _ => true) true n 66 cs = some y) (hw : ∀ m ∈ y.1.weights Tryz.prog 66, m ≤ reachBytes) :
    ∃ v : DistD × DLoc, cs = v.1.cells v.2 ∧ DistIn W (fun _ => True) v.1 v.2 ∧ v.1.n.size ≤ maxLen := by
  obtain ⟨xs, m, rfl, rfl, hl, hxl, hg⟩ := DataW.trod_struct Tryz.underlying66 h
  rw [cells_dist] at hl
  match cs, hl with
  | [u0, u1, u2, u3, u4], _ =>
    have g0 := hg 0 _ rfl
    have g1 := hg 1 _ rfl
    have g2 := hg 2 _ rfl
    have g3 := hg 3 _ rfl
    have g4 := hg 4 _ rfl
    match xs, hxl with
    | [y0, y1, y2, y3, y4], _ =>
      simp [cellsS1, cellsI1, cells_parts, cells_cuts] at g0 g1 g2 g3 g4
      obtain ⟨n0, e0, _, w0⟩ := DataW.trod_string Tryz.underlying9 g0
      obtain ⟨n2, e2, _, w2⟩ := DataW.trod_int Tryz.underlying3 g2
      obtain ⟨n4, e4, _, w4⟩ := DataW.trod_int Tryz.underlying3 g4
      rw [DataW.weights, Tryz.underlying66] at hw
      obtain ⟨es, p, cap, e1, hlat, hin⟩ := open_flat pEnc (.zero, none, 0) (fun v => PtIn W (fun _ => True) v.1 v.2.1 v.2.2) Tryz.underlying63 cells_part bytes_part (by decide) (by decide) (fun x => rfl) (fun m _ => open_part m) g1 fun m hm => hw m (DataW.weights_mem_each (j := 1) (t := 63) (d := y1.1) rfl rfl m hm)
      obtain ⟨kl, p3, cap3, e3, hl3, -⟩ := open_flat CutD.cells ⟨0, 0, 0⟩ (fun _ => True) Tryz.underlying64 cells_cut bytes_cut (by decide) (by decide) (fun x => rfl) (fun m _ cs y h _ => by obtain ⟨v, hv⟩ := open_cut h; exact ⟨v, hv, trivial⟩) g3 fun m hm => hw m (DataW.weights_mem_each (j := 3) (t := 64) (d := y3.1) rfl rfl m hm)
      have e0' : u0 = .string n0 := by simpa using e0
      have e1' : u1 = .slice p es.length cap := by simpa using e1
      have e2' : u2 = .int .i64 n2 := by simpa using e2
      have e3' : u3 = .slice p3 kl.length cap3 := by simpa using e3
      have e4' : u4 = .int .i64 n4 := by simpa using e4
      subst e0' e1' e2' e3' e4'
      exact ⟨(⟨n0, es.map (·.1), n2, kl, n4⟩, ⟨p, cap, p3, cap3⟩), by simp [DistD.cells], ⟨ptIn_of hlat hin 0 0, hl3⟩, w0⟩
theorem cells_faults : Tryz.prog.cellsOf 31 = 5 := by kernel_rfl
set_option maxRecDepth 100000 in
theorem open_faults {H : Type} {enc : TypeId × Value → H} {W : World} {n : Nat} {cs : List Value} {y : DataW H × List MemPlace} (h : DataW.trod enc Tryz.prog W 0 (fun _ => true) true n 31 cs = some y) : ∃ a b c d e : Int, cs = [.int .i64 a, .int .i64 b, .int .i64 c, .int .i64 d, .int .i64 e] := by
  obtain ⟨xs, m, rfl, rfl, hl, hxl, hg⟩ := DataW.trod_struct Tryz.underlying31 h
  rw [cells_faults] at hl
  match cs, hl with
  | [u0, u1, u2, u3, u4], _ =>
    have g0 := hg 0 _ rfl
    have g1 := hg 1 _ rfl
    have g2 := hg 2 _ rfl
    have g3 := hg 3 _ rfl
    have g4 := hg 4 _ rfl
    match xs, hxl with
    | [y0, y1, y2, y3, y4], _ =>
      simp [cellsI1] at g0 g1 g2 g3 g4
      obtain ⟨n0, e0, _, w0⟩ := DataW.trod_int Tryz.underlying3 g0
      obtain ⟨n1, e1, _, w1⟩ := DataW.trod_int Tryz.underlying3 g1
      obtain ⟨n2, e2, _, w2⟩ := DataW.trod_int Tryz.underlying3 g2
      obtain ⟨n3, e3, _, w3⟩ := DataW.trod_int Tryz.underlying3 g3
      obtain ⟨n4, e4, _, w4⟩ := DataW.trod_int Tryz.underlying3 g4
      have e0' : u0 = .int .i64 n0 := by simpa using e0
      have e1' : u1 = .int .i64 n1 := by simpa using e1
      have e2' : u2 = .int .i64 n2 := by simpa using e2
      have e3' : u3 = .int .i64 n3 := by simpa using e3
      have e4' : u4 = .int .i64 n4 := by simpa using e4
      subst e0' e1' e2' e3' e4'
      exact ⟨n0, n1, n2, n3, n4, rfl⟩
theorem cells_course : Tryz.prog.cellsOf 33 = 16 := by kernel_rfl

theorem cells_lmat : Tryz.prog.cellsOf 22 = 1 := by kernel_rfl
theorem cells_lleg : Tryz.prog.cellsOf 23 = 1 := by kernel_rfl
theorem cells_ldist : Tryz.prog.cellsOf 24 = 1 := by kernel_rfl
theorem cells_lwave : Tryz.prog.cellsOf 25 = 1 := by kernel_rfl
theorem cells_loff : Tryz.prog.cellsOf 26 = 1 := by kernel_rfl
theorem cells_lcat : Tryz.prog.cellsOf 27 = 1 := by kernel_rfl
theorem cells_lprize : Tryz.prog.cellsOf 28 = 1 := by kernel_rfl
theorem cells_lstep : Tryz.prog.cellsOf 29 = 1 := by kernel_rfl
set_option maxHeartbeats 2000000 in
set_option maxRecDepth 100000 in
/-- Cells that read as a course. -/
theorem open_courseC {H : Type} {enc : TypeId × Value → H} {W : World} {n : Nat} {cs : List Value} {y : DataW H × List MemPlace} (h : DataW.trod enc Tryz.prog W 0 (fun _ => true) true n 33 cs = some y) (hw : ∀ m ∈ y.1.weights Tryz.prog 33, m ≤ reachBytes) :
    ∃ (c : Crs) (x : CLoc), cs = cellsC c x ∧ CourseIn W (fun _ => True) c x ∧ CourseSz c ∧ c.n.size ≤ maxLen ∧ (∀ z ∈ c.legs, WfE (endsOf z)) ∧ (∀ z ∈ c.prizes, WfT (threeOf z)) := by
  obtain ⟨xs, m, rfl, rfl, hl, hxl, hg⟩ := DataW.trod_struct Tryz.underlying33 h
  rw [cells_course] at hl
  match cs, hl with
  | [u0, u1, u2, u3, u4, u5, u6, u7, u8, u9, u10, u11, u12, u13, u14, u15], _ =>
    have g0 := hg 0 _ rfl
    have g1 := hg 1 _ rfl
    have g2 := hg 2 _ rfl
    have g3 := hg 3 _ rfl
    have g4 := hg 4 _ rfl
    have g5 := hg 5 _ rfl
    have g6 := hg 6 _ rfl
    have g7 := hg 7 _ rfl
    have g8 := hg 8 _ rfl
    have g9 := hg 9 _ rfl
    have g10 := hg 10 _ rfl
    have g11 := hg 11 _ rfl
    match xs, hxl with
    | [y0, y1, y2, y3, y4, y5, y6, y7, y8, y9, y10, y11], _ =>
      simp [cellsS1, cellsI1, cells_faults, cells_lstep, cells_lmat, cells_lleg, cells_ldist, cells_lwave, cells_loff, cells_lcat, cells_lprize] at g0 g1 g2 g3 g4 g5 g6 g7 g8 g9 g10 g11
      rw [DataW.weights, Tryz.underlying33] at hw
      obtain ⟨n0, e0, _, w0⟩ := DataW.trod_string Tryz.underlying9 g0
      obtain ⟨l1, p1, c1, e1, hl1, hr1⟩ := open_flat MatD.cells ⟨ByteArray.empty, 0⟩ (fun v => v.n.size ≤ maxLen) Tryz.underlying22 cells_mat bytes_mat (by decide) (by decide) (fun x => rfl) (fun m _ cs y h _ => open_mat h) g1 fun m hm => hw m (DataW.weights_mem_each (j := 1) (t := 22) (d := y1.1) rfl rfl m hm)
      obtain ⟨l2, p2, c2, e2, hl2, hr2⟩ := open_flat LegD.cells ⟨0, 0, 0, 0⟩ (fun v => WfE (endsOf v)) Tryz.underlying23 cells_leg bytes_leg (by decide) (by decide) (fun x => rfl) (fun m _ cs y h _ => open_leg h) g2 fun m hm => hw m (DataW.weights_mem_each (j := 2) (t := 23) (d := y2.1) rfl rfl m hm)
      obtain ⟨l3, p3, c3, e3, hl3, hr3⟩ := open_flat (fun e : DistD × DLoc => e.1.cells e.2) (⟨ByteArray.empty, [], 0, [], 0⟩, ⟨none, 0, none, 0⟩) (fun v => DistIn W (fun _ => True) v.1 v.2 ∧ v.1.n.size ≤ maxLen) Tryz.underlying24 cells_dist bytes_dist (by decide) (by decide) (fun x => rfl) (fun m _ cs y h hw => open_dist h hw) g3 fun m hm => hw m (DataW.weights_mem_each (j := 3) (t := 24) (d := y3.1) rfl rfl m hm)
      obtain ⟨l4, p4, c4, e4, hl4, hr4⟩ := open_flat WaveD.cells ⟨ByteArray.empty, 0⟩ (fun v => v.n.size ≤ maxLen) Tryz.underlying25 cells_wave bytes_wave (by decide) (by decide) (fun x => rfl) (fun m _ cs y h _ => open_wave h) g4 fun m hm => hw m (DataW.weights_mem_each (j := 4) (t := 25) (d := y4.1) rfl rfl m hm)
      obtain ⟨l5, p5, c5, e5, hl5, hr5⟩ := open_flat OffD.cells ⟨ByteArray.empty, 0, 0, false⟩ (fun v => v.n.size ≤ maxLen) Tryz.underlying26 cells_off bytes_off (by decide) (by decide) (fun x => rfl) (fun m _ cs y h _ => open_off h) g5 fun m hm => hw m (DataW.weights_mem_each (j := 5) (t := 26) (d := y5.1) rfl rfl m hm)
      obtain ⟨l6, p6, c6, e6, hl6, hr6⟩ := open_flat CatD.cells ⟨ByteArray.empty, 0, 0⟩ (fun v => v.n.size ≤ maxLen) Tryz.underlying27 cells_cat bytes_cat (by decide) (by decide) (fun x => rfl) (fun m _ cs y h _ => open_cat h) g6 fun m hm => hw m (DataW.weights_mem_each (j := 6) (t := 27) (d := y6.1) rfl rfl m hm)
      obtain ⟨l7, p7, c7, e7, hl7, hr7⟩ := open_flat PrizeD.cells ⟨0, 0, 0, 0⟩ (fun v => WfT (threeOf v)) Tryz.underlying28 cells_prize bytes_prize (by decide) (by decide) (fun x => rfl) (fun m _ cs y h _ => open_prize h) g7 fun m hm => hw m (DataW.weights_mem_each (j := 7) (t := 28) (d := y7.1) rfl rfl m hm)
      obtain ⟨l8, p8, c8, e8, hl8⟩ := open_list (fun m _ => openT_all m) g8 fun m hm => hw m (DataW.weights_mem_each (j := 8) (t := 29) (d := y8.1) rfl rfl m hm)
      obtain ⟨a, b, c, d, e, e9⟩ := open_faults g9
      obtain ⟨n10, e10, _, w10⟩ := DataW.trod_int Tryz.underlying3 g10
      obtain ⟨n11, e11, _, w11⟩ := DataW.trod_int Tryz.underlying3 g11
      have e0' : u0 = .string n0 := by simpa using e0
      have e1' : u1 = .slice p1 l1.length c1 := by simpa using e1
      have e2' : u2 = .slice p2 l2.length c2 := by simpa using e2
      have e3' : u3 = .slice p3 l3.length c3 := by simpa using e3
      have e4' : u4 = .slice p4 l4.length c4 := by simpa using e4
      have e5' : u5 = .slice p5 l5.length c5 := by simpa using e5
      have e6' : u6 = .slice p6 l6.length c6 := by simpa using e6
      have e7' : u7 = .slice p7 l7.length c7 := by simpa using e7
      have e8' : u8 = .slice p8 l8.length c8 := by simpa using e8
      have e9' : u9 = .int .i64 a ∧ u10 = .int .i64 b ∧ u11 = .int .i64 c ∧ u12 = .int .i64 d ∧ u13 = .int .i64 e := by simpa using e9
      have e10' : u14 = .int .i64 n10 := by simpa using e10
      have e11' : u15 = .int .i64 n11 := by simpa using e11
      obtain ⟨f1, f2, f3, f4, f5⟩ := e9'
      subst e0' e1' e2' e3' e4' e5' e6' e7' e8' f1 f2 f3 f4 f5 e10' e11'
      exact ⟨⟨n0, l1, l2, l3.map (·.1), l4, l5, l6, l7, l8, a, b, c, d, e, n10, n11⟩, ⟨p1, c1, p2, c2, p3, c3, p4, c4, p5, c5, p6, c6, p7, c7, p8, c8⟩, by simp [cellsC],
        ⟨hl1, hl2, ⟨l3, rfl, hl3, fun i h => (hr3 _ (List.getElem_mem h)).1⟩, hl4, hl5, hl6, hl7, hl8⟩, ⟨hr1, fun v hv => by obtain ⟨u, hu, rfl⟩ := List.mem_map.1 hv; exact (hr3 u hu).2, hr4, hr5, hr6⟩, w0, hr2, hr7⟩
set_option maxRecDepth 100000 in
/-- A parameter of type Course. -/
theorem open_course {H : Type} {enc : TypeId × Value → H} {W : World} {base : Nat} {v : Value} {d : DataW H} {ps : List MemPlace}
    (hval : Value.okWide Tryz.prog W .any base 33 v) (h : DataW.Trod enc Tryz.prog W 0 (fun _ => true) true 33 v d ps) (hw : ∀ n ∈ d.weights Tryz.prog 33, n ≤ reachBytes) :
    ∃ (c : Crs) (x : CLoc), v = courseV c x ∧ CourseIn W (fun _ => True) c x ∧ CourseSz c ∧ c.n.size ≤ maxLen ∧ (∀ z ∈ c.legs, WfE (endsOf z)) ∧ (∀ z ∈ c.prizes, WfT (threeOf z)) := by
  obtain ⟨cs, rfl, hsz⟩ := okWide_struct Tryz.underlying33 hval
  obtain ⟨fuel, hf⟩ := h
  obtain ⟨c, x, e, hc⟩ := open_courseC hf hw
  have e2 : cs.toList = cellsC c x := by simpa [Value.cells] using e
  obtain ⟨l⟩ := cs
  simp only at e2
  subst e2
  exact ⟨c, x, rfl, hc⟩
end Go.Proofs.YtabdgnigmlpeaaaGreatDoor
/- courseRouted; Course, whole. -/
namespace Go.Proofs.YtabdgnigmlpeaaaGreatDoor
open Go.RowKit Go.Maps Go.WideMaps

set_option maxHeartbeats 2000000 in
theorem routedC_any {w : World} {Q : Nat → Prop} {d : DistD} {x : DLoc} (h : DistIn w Q d x) {mats : List MatD} {pm : Option Addr} {cm : Nat} (hm : FlatIn w Q 2 MatD.cells mats pm cm) (hml : mats.length ≤ 1000) {bl n2 : Nat} {D2 : DataW Unit} {N : List (Int × Int)} (hL : w.ownsMap Tryz.prog 132 (plainElem (H := Unit) Tryz.prog 3) bl n2 D2) (hN : CntK endsK WfE D2 N) (hd : distR mats.length d = true) (hlim : limD d = true)
    (B L : Nat) (h1 : w.cell? ⟨B, 1, none⟩ = some (.slice pm mats.length cm)) (h2 : w.cell? ⟨L, 0, none⟩ = some (.map (some bl))) :
    Calls Tryz.prog 93 #[distV d x, .pointer (some ⟨B, 0, none⟩), .pointer (some ⟨L, 0, none⟩)] w fun e w' => e = .returned (.bool (routeE mats N d)) ∧ Below w.heap.size w w' := by
  have hA := (Below.refl w.heap.size w).alloc (Nat.le_refl _) (.cells #[.string d.n, .slice x.pr d.r.length x.cr, .int .i64 d.t, .slice x.pc d.cs.length x.cc, .int .i64 d.x] 66)
  have HN := Lib.hid (routed_any (h.bel hA) (hm.bel hA) hml (hL.kept (gr_bel none hA) (by simp)) hN hd hlim)
  have HA := Lib.hid hA
  have y1 := keepc hA h1
  have y2 := keepc hA h2
  clear hA h hm hL h1 h2
  unfold distV DistD.cells at *
  generalize routeE mats N d = q at *
  go_enter Tryz.func93, Tryz.ntmps93
  go_wp2_with (go_at_call 94; (with_reducible refine HN.out.mono ?_); rintro e w1 ⟨rfl, hb⟩; have HB := Lib.hid (HA.out.trans (hb.mono HA.out.size)); clear hb)
  go_ret
  exact ⟨rfl, HB.out⟩
/-- All routes are valid. -/
def routesE (c : Crs) : Bool := c.dists.all (routeE c.mats (c.legs.map endsOf))
theorem routeds_any {w : World} {Q : Nat → Prop} {c : Crs} {x : CLoc} (h : CourseIn w Q c x) (hml : c.mats.length ≤ 1000) {bl n2 : Nat} {D2 : DataW Unit} (hL : w.ownsMap Tryz.prog 132 (plainElem (H := Unit) Tryz.prog 3) bl n2 D2) (hN : CntK endsK WfE D2 (c.legs.map endsOf)) (hd : c.dists.all (distR c.mats.length) = true) (hlim : c.dists.all limD = true)
    (B L : Nat) (h1 : w.cell? ⟨B, 1, none⟩ = some (.slice x.pm c.mats.length x.cm)) (h2 : w.cell? ⟨L, 0, none⟩ = some (.map (some bl))) :
    Calls Tryz.prog 56 #[.slice x.pd c.dists.length x.cd, .func (Fn.func 93) #[] #[.pointer (some ⟨B, 0, none⟩), .pointer (some ⟨L, 0, none⟩)]] w fun e w' => e = .returned (.bool (routesE c)) ∧ Below w.heap.size w w' := by
  obtain ⟨es, hes, ⟨b, off, hLs, hcell⟩, hdi⟩ := h.dists
  unfold routesE
  rw [← hes] at hd hlim ⊢
  rw [List.length_map, List.all_map]
  let z : DistD × DLoc := ⟨⟨⟨#[]⟩, [], 0, [], 0⟩, ⟨none, 0, none, 0⟩⟩
  have hz : ∀ j (h : j < es.length), es.getD j z = es[j] := fun j h => by simp [List.getD, h]
  refine allB_dist (fun e => routeE c.mats (c.legs.map endsOf) e.1) 93 #[.pointer (some ⟨B, 0, none⟩), .pointer (some ⟨L, 0, none⟩)] (enters_of Tryz.func93 (by kernel_rfl) rfl) es (fun j => .string (es.getD j z).1.n) (fun j => .slice (es.getD j z).2.pr (es.getD j z).1.r.length (es.getD j z).2.cr) (fun j => .int .i64 (es.getD j z).1.t) (fun j => .slice (es.getD j z).2.pc (es.getD j z).1.cs.length (es.getD j z).2.cc) (fun j => .int .i64 (es.getD j z).1.x) x.pd b off x.cd
    (fun hne => (hLs.hb (by simpa using hne)).1) hLs.hl w (fun hne => (hLs.hb (by simpa using hne)).2.2) (fun j hj => ?_) (fun W j hj hW => ?_)
  · rw [hz j hj]
    exact ⟨hcell j hj 0 _ rfl, hcell j hj 1 _ rfl, hcell j hj 2 _ rfl, hcell j hj 3 _ rfl, hcell j hj 4 _ rfl⟩
  · rw [hz j hj]
    have hmem : es[j].1 ∈ es.map (·.1) := List.mem_map.2 ⟨_, List.getElem_mem hj, rfl⟩
    exact routedC_any ((hdi j hj).bel hW) (h.mats.bel hW) hml (hL.kept (gr_bel none hW) (by simp)) hN (List.all_eq_true.1 hd _ hmem) (List.all_eq_true.1 hlim _ hmem) B L (keepc hW h1) (keepc hW h2)
set_option maxHeartbeats 4000000 in
set_option maxRecDepth 100000 in
theorem routed_course {w : World} {Q : Nat → Prop} {c : Crs} {x : CLoc} (h : CourseIn w Q c x) (hl : limE c = true) (hr : rangeE c = true) (hwl : ∀ z ∈ c.legs, WfE (endsOf z)) :
    Calls Tryz.prog 40 #[courseV c x] w fun e w' => e = .returned (.bool (routesE c)) ∧ Below w.heap.size w w' := by
  unfold limE at hl
  simp only [Bool.and_eq_true, decide_eq_true_eq] at hl
  obtain ⟨l1, l2, -, -, -, -, -, l8⟩ := hl
  unfold rangeE at hr
  simp only [Bool.and_eq_true, decide_eq_true_eq] at hr
  obtain ⟨-, -, -, hdr, -⟩ := hr
  have hA := (Below.refl w.heap.size w).alloc (Nat.le_refl _) (.cells (cellsC c x).toArray 33)
  have hC := counts_leg 79 (enters_of Tryz.func79 (by kernel_rfl) rfl) (h.legs.bel hA) (by omega) endsOf_any hwl
  rw [World.size_alloc] at hC
  have HC := Lib.hid hC
  clear hC
  have HD : Hid (∀ w1 D bl n2, Below (w.heap.size + 1) (w.alloc (.cells (cellsC c x).toArray 33)) w1 → w1.ownsMap Tryz.prog 132 (plainElem (H := Unit) Tryz.prog 3) bl n2 D → CntK endsK WfE D (c.legs.map endsOf) →
      (w1.alloc (.cells #[.map (some bl)] 146)).cell? ⟨w.heap.size, 3, none⟩ = some (.slice x.pd c.dists.length x.cd) ∧ Hid (Calls Tryz.prog 56 #[.slice x.pd c.dists.length x.cd, .func (Fn.func 93) #[] #[.pointer (some ⟨w.heap.size, 0, none⟩), .pointer (some ⟨w1.heap.size, 0, none⟩)]] (w1.alloc (.cells #[.map (some bl)] 146)) fun e w' => e = .returned (.bool (routesE c)) ∧ Below w.heap.size w w')) := Lib.hid fun w1 D bl n2 hb hO hN => by
    rw [← World.size_alloc w (.cells (cellsC c x).toArray 33)] at hb
    have hb3 := hb.alloc hb.size (.cells #[.map (some bl)] 146)
    have hb4 := hA.trans (hb3.mono hA.size)
    refine ⟨keepc hb3 (by simp [cellsC, go_sem]), Lib.hid ((routeds_any (h.bel hb4) (by omega) (hO.kept (gr_bel none ((Below.refl w1.heap.size w1).alloc (Nat.le_refl _) _)) (by simp)) hN hdr l8 w.heap.size w1.heap.size (keepc hb3 (by simp [cellsC, go_sem])) (by simp [go_sem])).mono fun e w' hq => ⟨hq.1, hb4.trans (hq.2.mono hb4.size)⟩)⟩
  have hmf : ∀ (fn : Fn) (first cap : Array Value) (w : World), (Instr.makeFunc fn first cap).run Tryz.prog w = .ok (.func fn first cap) w := fun _ _ _ _ => rfl
  clear hA h hwl hdr l1 l2 l8
  unfold courseV
  unfold cellsC at *
  generalize routesE c = q at *
  go_enter Tryz.func40, Tryz.ntmps40
  go_wp2_with (first
    | (go_at_call 92; (with_reducible refine HC.out.mono ?_); rintro e w1 ⟨D, rfl, hO, hN, hb⟩; obtain ⟨z3, HZ⟩ := HD.out _ _ _ _ hb hO hN; clear hO hN hb)
    | (go_at_call 56; (with_reducible refine HZ.out.mono ?_); rintro e w2 ⟨rfl, hb⟩; have HB := Lib.hid hb; clear hb))
  go_ret
  exact ⟨rfl, HB.out⟩
/-- What Course comes to. -/
def courseE (c : Crs) : Int := if limE c = false then 2 else if namesE c = false then 70 else if rangeE c = false then 71 else if tiesE c.ties ≠ 0 then tiesE c.ties else if routesE c = false then 72 else 0
set_option maxHeartbeats 8000000 in
set_option maxRecDepth 100000 in
theorem tCourse_any {w : World} {Q : Nat → Prop} {c : Crs} {x : CLoc} (h : CourseIn w Q c x) (hz : CourseSz c) (hwl : ∀ z ∈ c.legs, WfE (endsOf z)) (hwp : ∀ z ∈ c.prizes, WfT (threeOf z)) :
    Calls Tryz.prog 12 #[courseV c x] w fun e w' => e = .returned (.int .i64 (courseE c)) ∧ Below w.heap.size w w' := by
  have hA := (Below.refl w.heap.size w).alloc (Nat.le_refl _) (.cells (cellsC c x).toArray 33)
  have N0 : Hid (∀ W, Below w.heap.size w W → Calls Tryz.prog 37 #[courseV c x] W fun e w' => e = .returned (.bool (limE c)) ∧ Below W.heap.size W w') := Lib.hid fun W hW => limited_course (h.bel hW)
  have N1 : Hid (limE c = true → ∀ W, Below w.heap.size w W → Calls Tryz.prog 38 #[courseV c x] W fun e w' => e = .returned (.bool (namesE c)) ∧ Below W.heap.size W w') := Lib.hid fun hl W hW => named_course (h.bel hW) hz hl
  have N2 : Hid (limE c = true → ∀ W, Below w.heap.size w W → Calls Tryz.prog 39 #[courseV c x] W fun e w' => e = .returned (.bool (rangeE c)) ∧ Below W.heap.size W w') := Lib.hid fun hl W hW => range_course (h.bel hW) hl hwl hwp
  have N3 : Hid (∀ W, Below w.heap.size w W → Calls Tryz.prog 18 #[.slice x.pt c.ties.length x.ct] W fun e w' => e = .returned (.int .i64 (tiesE c.ties)) ∧ Below W.heap.size W w') := Lib.hid fun W hW => tTies_any (h.ties.keep2 hW.size fun b h1 hl => ⟨h1, hW.block b hl⟩)
  have N4 : Hid (limE c = true → rangeE c = true → ∀ W, Below w.heap.size w W → Calls Tryz.prog 40 #[courseV c x] W fun e w' => e = .returned (.bool (routesE c)) ∧ Below W.heap.size W w') := Lib.hid fun hl hr W hW => routed_course (h.bel hW) hl hr hwl
  have hCs : (cellsC c x).toArray.size = 16 := rfl
  have HF : Hid (∀ w', Below (w.alloc (.cells (cellsC c x).toArray 33)).heap.size (w.alloc (.cells (cellsC c x).toArray 33)) w' → Hid ((Instr.loadAt 33 (.pointer (some ⟨w.heap.size, 0, none⟩))).run Tryz.prog w' = .ok (courseV c x) w') ∧ w'.cell? ⟨w.heap.size, 8, none⟩ = some (.slice x.pt c.ties.length x.ct)) := Lib.hid fun w' hb => ⟨Lib.hid (ld_keep hCs hb), keepc hb (by simp [cellsC, go_sem])⟩
  have HWW : Hid (∀ w', Below (w.alloc (.cells (cellsC c x).toArray 33)).heap.size (w.alloc (.cells (cellsC c x).toArray 33)) w' → Below w.heap.size w w') := Lib.hid fun w' hb => hA.trans (hb.mono hA.size)
  have HB0 := Lib.hid (Below.refl (w.alloc (.cells (cellsC c x).toArray 33)).heap.size (w.alloc (.cells (cellsC c x).toArray 33)))
  clear h hz hwl hwp hA hCs
  unfold courseE
  unfold courseV at *
  generalize (cellsC c x).toArray = cs at *
  obtain ⟨HL0, k8⟩ := HF.out _ HB0.out
  have HT := Lib.hid (rfl : tiesE c.ties = tiesE c.ties)
  generalize limE c = q0 at *
  generalize namesE c = q1 at *
  generalize rangeE c = q2 at *
  generalize tiesE c.ties = q3 at *
  generalize routesE c = q4 at *
  generalize c.ties.length = nt at *
  cases q0 with
  | false =>
    go_enter Tryz.func12, Tryz.ntmps12
    go_wp2_with (first
      | go_skip
      | (refine wpList_loadW (ty := 33) (x := .tmp 1) rfl rfl rfl HL0.out ?_)
      | (go_at_call 37; (with_reducible refine (N0.out _ (HWW.out _ HB0.out)).mono ?_); rintro e w1 ⟨rfl, hb⟩; have HB1 := Lib.hid (HB0.out.trans (hb.mono HB0.out.size)); obtain ⟨HL1, z1⟩ := HF.out _ HB1.out; clear hb))
    go_ret
    exact ⟨by simp, HWW.out _ HB1.out⟩
  | true =>
    cases q1 with
    | false =>
      go_enter Tryz.func12, Tryz.ntmps12
      go_wp2_with (first
        | go_skip
        | (refine wpList_loadW (ty := 33) (x := .tmp 1) rfl rfl rfl HL0.out ?_)
        | (go_at_call 37; (with_reducible refine (N0.out _ (HWW.out _ HB0.out)).mono ?_); rintro e w1 ⟨rfl, hb⟩; have HB1 := Lib.hid (HB0.out.trans (hb.mono HB0.out.size)); obtain ⟨HL1, z1⟩ := HF.out _ HB1.out; clear hb)
        | (refine wpList_loadW (ty := 33) (x := .tmp 1) rfl rfl rfl HL1.out ?_)
        | (go_at_call 38; (with_reducible refine (N1.out (by trivial) _ (HWW.out _ HB1.out)).mono ?_); rintro e w2 ⟨rfl, hb⟩; have HB2 := Lib.hid (HB1.out.trans (hb.mono HB1.out.size)); obtain ⟨HL2, z2⟩ := HF.out _ HB2.out; clear hb))
      go_ret
      exact ⟨by simp, HWW.out _ HB2.out⟩
    | true =>
      cases q2 with
      | false =>
        go_enter Tryz.func12, Tryz.ntmps12
        go_wp2_with (first
          | go_skip
          | (refine wpList_loadW (ty := 33) (x := .tmp 1) rfl rfl rfl HL0.out ?_)
          | (go_at_call 37; (with_reducible refine (N0.out _ (HWW.out _ HB0.out)).mono ?_); rintro e w1 ⟨rfl, hb⟩; have HB1 := Lib.hid (HB0.out.trans (hb.mono HB0.out.size)); obtain ⟨HL1, z1⟩ := HF.out _ HB1.out; clear hb)
          | (refine wpList_loadW (ty := 33) (x := .tmp 1) rfl rfl rfl HL1.out ?_)
          | (go_at_call 38; (with_reducible refine (N1.out (by trivial) _ (HWW.out _ HB1.out)).mono ?_); rintro e w2 ⟨rfl, hb⟩; have HB2 := Lib.hid (HB1.out.trans (hb.mono HB1.out.size)); obtain ⟨HL2, z2⟩ := HF.out _ HB2.out; clear hb)
          | (refine wpList_loadW (ty := 33) (x := .tmp 1) rfl rfl rfl HL2.out ?_)
          | (go_at_call 39; (with_reducible refine (N2.out (by trivial) _ (HWW.out _ HB2.out)).mono ?_); rintro e w3 ⟨rfl, hb⟩; have HB3 := Lib.hid (HB2.out.trans (hb.mono HB2.out.size)); obtain ⟨HL3, z3⟩ := HF.out _ HB3.out; clear hb))
        go_ret
        exact ⟨by simp, HWW.out _ HB3.out⟩
      | true =>
        by_cases h3 : q3 = 0
        · subst h3
          cases q4 with
          | false =>
            go_enter Tryz.func12, Tryz.ntmps12
            go_wp2_with (first
              | go_skip
              | (refine wpList_loadW (ty := 33) (x := .tmp 1) rfl rfl rfl HL0.out ?_)
              | (go_at_call 37; (with_reducible refine (N0.out _ (HWW.out _ HB0.out)).mono ?_); rintro e w1 ⟨rfl, hb⟩; have HB1 := Lib.hid (HB0.out.trans (hb.mono HB0.out.size)); obtain ⟨HL1, z1⟩ := HF.out _ HB1.out; clear hb)
              | (refine wpList_loadW (ty := 33) (x := .tmp 1) rfl rfl rfl HL1.out ?_)
              | (go_at_call 38; (with_reducible refine (N1.out (by trivial) _ (HWW.out _ HB1.out)).mono ?_); rintro e w2 ⟨rfl, hb⟩; have HB2 := Lib.hid (HB1.out.trans (hb.mono HB1.out.size)); obtain ⟨HL2, z2⟩ := HF.out _ HB2.out; clear hb)
              | (refine wpList_loadW (ty := 33) (x := .tmp 1) rfl rfl rfl HL2.out ?_)
              | (go_at_call 39; (with_reducible refine (N2.out (by trivial) _ (HWW.out _ HB2.out)).mono ?_); rintro e w3 ⟨rfl, hb⟩; have HB3 := Lib.hid (HB2.out.trans (hb.mono HB2.out.size)); obtain ⟨HL3, z3⟩ := HF.out _ HB3.out; clear hb)
              | (go_at_call 18; (with_reducible refine (N3.out _ (HWW.out _ HB3.out)).mono ?_); rintro e w4 ⟨rfl, hb⟩; have HB4 := Lib.hid (HB3.out.trans (hb.mono HB3.out.size)); obtain ⟨HL4, z4⟩ := HF.out _ HB4.out; clear hb)
              | (refine wpList_loadW (ty := 33) (x := .tmp 1) rfl rfl rfl HL4.out ?_)
              | (go_at_call 40; (with_reducible refine (N4.out (by trivial) (by trivial) _ (HWW.out _ HB4.out)).mono ?_); rintro e w5 ⟨rfl, hb⟩; have HB5 := Lib.hid (HB4.out.trans (hb.mono HB4.out.size)); obtain ⟨HL5, z5⟩ := HF.out _ HB5.out; clear hb))
            go_ret
            exact ⟨by simp, HWW.out _ HB5.out⟩
          | true =>
            go_enter Tryz.func12, Tryz.ntmps12
            go_wp2_with (first
              | go_skip
              | (refine wpList_loadW (ty := 33) (x := .tmp 1) rfl rfl rfl HL0.out ?_)
              | (go_at_call 37; (with_reducible refine (N0.out _ (HWW.out _ HB0.out)).mono ?_); rintro e w1 ⟨rfl, hb⟩; have HB1 := Lib.hid (HB0.out.trans (hb.mono HB0.out.size)); obtain ⟨HL1, z1⟩ := HF.out _ HB1.out; clear hb)
              | (refine wpList_loadW (ty := 33) (x := .tmp 1) rfl rfl rfl HL1.out ?_)
              | (go_at_call 38; (with_reducible refine (N1.out (by trivial) _ (HWW.out _ HB1.out)).mono ?_); rintro e w2 ⟨rfl, hb⟩; have HB2 := Lib.hid (HB1.out.trans (hb.mono HB1.out.size)); obtain ⟨HL2, z2⟩ := HF.out _ HB2.out; clear hb)
              | (refine wpList_loadW (ty := 33) (x := .tmp 1) rfl rfl rfl HL2.out ?_)
              | (go_at_call 39; (with_reducible refine (N2.out (by trivial) _ (HWW.out _ HB2.out)).mono ?_); rintro e w3 ⟨rfl, hb⟩; have HB3 := Lib.hid (HB2.out.trans (hb.mono HB2.out.size)); obtain ⟨HL3, z3⟩ := HF.out _ HB3.out; clear hb)
              | (go_at_call 18; (with_reducible refine (N3.out _ (HWW.out _ HB3.out)).mono ?_); rintro e w4 ⟨rfl, hb⟩; have HB4 := Lib.hid (HB3.out.trans (hb.mono HB3.out.size)); obtain ⟨HL4, z4⟩ := HF.out _ HB4.out; clear hb)
              | (refine wpList_loadW (ty := 33) (x := .tmp 1) rfl rfl rfl HL4.out ?_)
              | (go_at_call 40; (with_reducible refine (N4.out (by trivial) (by trivial) _ (HWW.out _ HB4.out)).mono ?_); rintro e w5 ⟨rfl, hb⟩; have HB5 := Lib.hid (HB4.out.trans (hb.mono HB4.out.size)); obtain ⟨HL5, z5⟩ := HF.out _ HB5.out; clear hb))
            go_ret
            exact ⟨by simp, HWW.out _ HB5.out⟩
        · have h4 : (q3 != 0) = true := by simpa using h3
          have H3 : Hid ((if true = false then (2 : Int) else if true = false then 70 else if true = false then 71 else if q3 ≠ 0 then q3 else if q4 = false then 72 else 0) = q3) := Lib.hid (by rw [if_neg (by decide), if_neg (by decide), if_neg (by decide), if_pos h3])
          rw [H3.out]
          clear h3
          go_enter Tryz.func12, Tryz.ntmps12
          go_wp2_with (first
            | go_skip
            | (refine wpList_loadW (ty := 33) (x := .tmp 1) rfl rfl rfl HL0.out ?_)
            | (go_at_call 37; (with_reducible refine (N0.out _ (HWW.out _ HB0.out)).mono ?_); rintro e w1 ⟨rfl, hb⟩; have HB1 := Lib.hid (HB0.out.trans (hb.mono HB0.out.size)); obtain ⟨HL1, z1⟩ := HF.out _ HB1.out; clear hb)
            | (refine wpList_loadW (ty := 33) (x := .tmp 1) rfl rfl rfl HL1.out ?_)
            | (go_at_call 38; (with_reducible refine (N1.out (by trivial) _ (HWW.out _ HB1.out)).mono ?_); rintro e w2 ⟨rfl, hb⟩; have HB2 := Lib.hid (HB1.out.trans (hb.mono HB1.out.size)); obtain ⟨HL2, z2⟩ := HF.out _ HB2.out; clear hb)
            | (refine wpList_loadW (ty := 33) (x := .tmp 1) rfl rfl rfl HL2.out ?_)
            | (go_at_call 39; (with_reducible refine (N2.out (by trivial) _ (HWW.out _ HB2.out)).mono ?_); rintro e w3 ⟨rfl, hb⟩; have HB3 := Lib.hid (HB2.out.trans (hb.mono HB2.out.size)); obtain ⟨HL3, z3⟩ := HF.out _ HB3.out; clear hb)
            | (go_at_call 18; (with_reducible refine (N3.out _ (HWW.out _ HB3.out)).mono ?_); rintro e w4 ⟨rfl, hb⟩; have HB4 := Lib.hid (HB3.out.trans (hb.mono HB3.out.size)); obtain ⟨HL4, z4⟩ := HF.out _ HB4.out; clear hb))
          go_ret
          exact ⟨rfl, HWW.out _ HB4.out⟩
end Go.Proofs.YtabdgnigmlpeaaaGreatDoor
/- The specification's FewCourse returns. -/
namespace Go.Proofs.YtabdgnigmlpeaaaGreatDoor
open Go.RowKit

set_option maxHeartbeats 16000000 in
set_option maxRecDepth 100000 in
theorem rfew_any {w : World} {Q : Nat → Prop} {c : Crs} {x : CLoc} (h : CourseIn w Q c x) (hcn : c.n.size ≤ maxLen) (W : World) (hW : Below w.heap.size w W) :
    Calls Tryz.prog 11 #[courseV c x] W fun e w' => ∃ q, e = .returned (.bool q) ∧ Below W.heap.size W w' := by
  have hA := (Below.refl W.heap.size W).alloc (Nat.le_refl _) (.cells (cellsC c x).toArray 33)
  have HWW : Hid (∀ w', Below (W.alloc (.cells (cellsC c x).toArray 33)).heap.size (W.alloc (.cells (cellsC c x).toArray 33)) w' → Below W.heap.size W w') := Lib.hid fun w' hb => hA.trans (hb.mono hA.size)
  have HQ : ∀ w', Below (W.alloc (.cells (cellsC c x).toArray 33)).heap.size (W.alloc (.cells (cellsC c x).toArray 33)) w' → Below w.heap.size w w' := fun w' hb => hW.trans ((HWW.out w' hb).mono hW.size)
  have NF : Hid (∀ V, Below (W.alloc (.cells (cellsC c x).toArray 33)).heap.size (W.alloc (.cells (cellsC c x).toArray 33)) V → Calls Tryz.prog 15 #[.slice x.pt c.ties.length x.ct] V fun e w' => e = .returned (.bool (fewS c.ties)) ∧ Below V.heap.size V w') := Lib.hid fun V hV => few_any (h.ties.keep2 (Q' := Q) (HQ V hV).size fun b h1 hl => ⟨h1, (HQ V hV).block b hl⟩)
  obtain ⟨es, hes, ⟨b3, off3, hb3, hc3⟩, hdi⟩ := h.dists
  have hle : c.dists.length = es.length := by rw [← hes, List.length_map]
  have e1 : c.mats.length ≤ 6000000000000 := by obtain ⟨_, _, hL, _⟩ := h.mats; exact hL.hl
  have e2 : c.legs.length ≤ 6000000000000 := by obtain ⟨_, _, hL, _⟩ := h.legs; exact hL.hl
  have e3 : es.length ≤ 6000000000000 := hb3.hl
  have e4 : c.waves.length ≤ 6000000000000 := by obtain ⟨_, _, hL, _⟩ := h.waves; exact hL.hl
  have e5 : c.offs.length ≤ 6000000000000 := by obtain ⟨_, _, hL, _⟩ := h.offs; exact hL.hl
  have e6 : c.cats.length ≤ 6000000000000 := by obtain ⟨_, _, hL, _⟩ := h.cats; exact hL.hl
  have e7 : c.prizes.length ≤ 6000000000000 := by obtain ⟨_, _, hL, _⟩ := h.prizes; exact hL.hl
  have HC3 : Hid (∀ w', Below (W.alloc (.cells (cellsC c x).toArray 33)).heap.size (W.alloc (.cells (cellsC c x).toArray 33)) w' → w'.cell? ⟨W.heap.size, 3, none⟩ = some (.slice x.pd es.length x.cd) ∧ w'.cell? ⟨W.heap.size, 0, none⟩ = some (.string c.n) ∧ w'.cell? ⟨W.heap.size, 8, none⟩ = some (.slice x.pt c.ties.length x.ct)) := Lib.hid fun w' hb => ⟨keepc hb (by simp [cellsC, go_sem, hle]), keepc hb (by simp [cellsC, go_sem]), keepc hb (by simp [cellsC, go_sem])⟩
  have HE3 : Hid (∀ w', Below (W.alloc (.cells (cellsC c x).toArray 33)).heap.size (W.alloc (.cells (cellsC c x).toArray 33)) w' → ∀ j (h : j < es.length), (x.pd = some ⟨b3, off3, none⟩ ∧ w'.cell? ⟨b3, off3 + j * 5 + 1, none⟩ = some (.slice es[j].2.pr es[j].1.r.length es[j].2.cr) ∧ w'.cell? ⟨b3, off3 + j * 5 + 3, none⟩ = some (.slice es[j].2.pc es[j].1.cs.length es[j].2.cc)) ∧ es[j].1.cs.length ≤ 6000000000000 ∧ (∀ V, Below (W.alloc (.cells (cellsC c x).toArray 33)).heap.size (W.alloc (.cells (cellsC c x).toArray 33)) V → Calls Tryz.prog 36 #[.slice es[j].2.pr es[j].1.r.length es[j].2.cr, .int .i64 17] V fun e w3 => e = .returned (.int .i64 (depL 17 0 es[j].1.r : Nat)) ∧ Below V.heap.size V w3) ∧ (∀ V, Below (W.alloc (.cells (cellsC c x).toArray 33)).heap.size (W.alloc (.cells (cellsC c x).toArray 33)) V → Calls Tryz.prog 35 #[.slice es[j].2.pr es[j].1.r.length es[j].2.cr] V fun e w3 => e = .returned (.int .i64 (cntP es[j].1.r : Nat)) ∧ Below V.heap.size V w3)) := Lib.hid fun w' hb j hj =>
    ⟨⟨(hb3.hb (by omega)).1, keepc (HQ w' hb) (hc3 j hj 1 _ rfl), keepc (HQ w' hb) (hc3 j hj 3 _ rfl)⟩, by obtain ⟨_, _, hL, _⟩ := (hdi j hj).cuts; exact hL.hl, fun V hV => rdepth_any (hdi j hj).route V 17 (HQ V hV) (by omega), fun V hV => rcnt_any (hdi j hj).route V (HQ V hV)⟩
  have g1 : (cellsC c x).toArray[1]? = some (.slice x.pm c.mats.length x.cm) := rfl
  have g2 : (cellsC c x).toArray[2]? = some (.slice x.pl c.legs.length x.cl) := rfl
  have g3 : (cellsC c x).toArray[3]? = some (.slice x.pd es.length x.cd) := by rw [← hle]; rfl
  have g4 : (cellsC c x).toArray[4]? = some (.slice x.pw c.waves.length x.cw) := rfl
  have g5 : (cellsC c x).toArray[5]? = some (.slice x.po c.offs.length x.co) := rfl
  have g6 : (cellsC c x).toArray[6]? = some (.slice x.pc c.cats.length x.cc) := rfl
  have g7 : (cellsC c x).toArray[7]? = some (.slice x.pz c.prizes.length x.cz) := rfl
  have HB0 := Lib.hid (Below.refl (W.alloc (.cells (cellsC c x).toArray 33)).heap.size (W.alloc (.cells (cellsC c x).toArray 33)))
  clear h hW hA HQ hb3 hc3 hdi hes hle
  unfold courseV at *
  generalize (cellsC c x).toArray = cs at *
  obtain ⟨pm, cm, pl, cl, pd, cd, pw, cw, po, co, pc0, cc0, pz, cz, pt, ct⟩ := x
  generalize c.n = cn at *
  generalize fewS c.ties = qf at *
  generalize c.ties.length = nt at *
  generalize c.mats.length = n1 at *
  generalize c.legs.length = n2 at *
  generalize c.waves.length = n4 at *
  generalize c.offs.length = n5 at *
  generalize c.cats.length = n6 at *
  generalize c.prizes.length = n7 at *
  simp only at *
  unfold maxLen at hcn
  have hcn2 : (cn.size : Int) ≤ 9223372036854775807 := by omega
  go_enter Tryz.func11, Tryz.ntmps11
  go_wp2_with fail
  clear g1 g2 g3 g4 g5 g6 g7
  go_loopw [3, 4] (fun nv i wr => ∃ j m : Nat, j ≤ es.length ∧ i = .int .i64 j ∧ nv = .int .i64 m ∧ Hid (m ≤ 60000000000000) ∧ Hid (Below (W.alloc (.cells cs 33)).heap.size (W.alloc (.cells cs 33)) wr)) (fun _ i _ => es.length - (intOf i).toNat)
  case atStart => exact ⟨0, n1 + n2 + es.length + n4 + n5 + n6 + n7, Nat.zero_le _, rfl, by go_num, Lib.hid (by omega), HB0⟩
  case round =>
    obtain ⟨j, m, hj, rfl, rfl, HM, HB⟩ := hrel
    clear HB0
    have hm := HM.out
    obtain ⟨f3, f0, f8⟩ := HC3.out _ HB.out
    by_cases hlt : j < es.length
    · have hji : (j : Int) < (es.length : Int) := by omega
      by_cases hm2 : m ≤ 200
      · have hmi : (m : Int) ≤ 200 := by omega
        obtain ⟨⟨rfl, a1, a3⟩, hkl, hdep, hcnt⟩ := HE3.out _ HB.out j hlt
        have hcp : cntP es[j].1.r ≤ 257 := by unfold cntP; omega
        have hdp := depL_max es[j].1.r 17 0
        have HDep := Lib.hid hdep
        have HLW : Hid (∀ w', Below wr.heap.size wr w' → Below (W.alloc (.cells cs 33)).heap.size (W.alloc (.cells cs 33)) w') := Lib.hid fun w' hb => HB.out.trans (hb.mono HB.out.size)
        have HCnt : Hid (∀ V, Below wr.heap.size wr V → Calls Tryz.prog 35 #[.slice es[j].2.pr es[j].1.r.length es[j].2.cr] V fun e w3 => e = .returned (.int .i64 (cntP es[j].1.r : Nat)) ∧ Hid (Below wr.heap.size wr w3)) := Lib.hid fun V hV => (hcnt V (HLW.out V hV)).mono fun e w' h => ⟨h.1, Lib.hid (hV.trans (h.2.mono hV.size))⟩
        clear HE3 hdep hcnt HC3
        generalize depL 17 0 es[j].1.r = dp at *
        generalize cntP es[j].1.r = cp at *
        generalize es[j].1.r.length = nr at *
        generalize es[j].1.cs.length = nk at *
        generalize es[j].2.pr = pr at *
        generalize es[j].2.cr = cr at *
        generalize es[j].2.pc = pc at *
        generalize es[j].2.cc = cc at *
        have HX : Hid (∀ w', Below wr.heap.size wr w' → w'.cell? ⟨W.heap.size, 3, none⟩ = some (.slice (some ⟨b3, off3, none⟩) es.length cd) ∧ w'.cell? ⟨b3, off3 + j * 5 + 3, none⟩ = some (.slice pc nk cc) ∧ w'.cell? ⟨b3, off3 + j * 5 + 1, none⟩ = some (.slice pr nr cr) ∧ Hid (Below wr.heap.size wr w')) := Lib.hid fun w' hb => ⟨keepc hb f3, keepc hb a3, keepc hb a1, Lib.hid hb⟩
        have HB1 := Lib.hid (Below.refl wr.heap.size wr)
        have HD := Lib.hid (Below.refl wr.heap.size wr).drew
        have hw1 : IntKind.i64.wrap ((m : Int) + (nk : Int)) = (m : Int) + (nk : Int) := IntWalk.i64_in _ (by omega)
        have hw2 : IntKind.i64.wrap ((m : Int) + (nk : Int) + (cp : Int)) = (m : Int) + (nk : Int) + (cp : Int) := IntWalk.i64_in _ (by omega)
        go_upto_region 5 with (fail)
        go_region_held3 (fun w' => w'.cell? ⟨W.heap.size, 3, none⟩ = some (.slice (some ⟨b3, off3, none⟩) es.length cd) ∧ w'.cell? ⟨b3, off3 + j * 5 + 3, none⟩ = some (.slice pc nk cc) ∧ w'.cell? ⟨b3, off3 + j * 5 + 1, none⟩ = some (.slice pr nr cr) ∧ Hid (Below wr.heap.size wr w'))
          (first
            | with_reducible exact HX.out _ HD.out
            | with_reducible exact HX.out _ HB1.out
            | with_reducible exact HX.out _ hb1.out
            | assumption | go_keep)
          ((go_at_call 35; with_reducible refine (HCnt.out _ (held3h (by assumption))).mono ?_; rintro e w' ⟨rfl, hb1⟩))
        all_goals
          by_cases h16 : dp ≤ 16
          · have k16 : ¬ (16 : Int) < (dp : Int) := by omega
            go_wp2_with (first | go_skip | (go_at_call 36; (with_reducible refine (HDep.out _ (HLW.out _ hb1.out)).mono ?_); rintro e w7 ⟨rfl, hb⟩; have HB7 := Lib.hid ((HLW.out _ hb1.out).trans (hb.mono (HLW.out _ hb1.out).size)); clear hb))
            go_round
            case rel => exact ⟨j + 1, m + nk + cp, by omega, by go_num, by go_num, Lib.hid (by omega), HB7⟩
            case measure => simp [intOf]; omega
          · have k16 : (16 : Int) < (dp : Int) := by omega
            go_wp2_with (first | go_skip | (go_at_call 36; (with_reducible refine (HDep.out _ (HLW.out _ hb1.out)).mono ?_); rintro e w7 ⟨rfl, hb⟩; have HB7 := Lib.hid ((HLW.out _ hb1.out).trans (hb.mono (HLW.out _ hb1.out).size)); clear hb))
            go_ret
            first | exact ⟨Or.inl rfl, HWW.out _ HB7.out⟩ | exact ⟨Or.inr rfl, HWW.out _ HB7.out⟩ | exact ⟨_, rfl, HWW.out _ HB7.out⟩
      · have hmi : ¬ (m : Int) ≤ 200 := by omega
        clear HE3
        go_wp2_with fail
        go_ret
        first | exact ⟨Or.inl rfl, HWW.out _ HB.out⟩ | exact ⟨Or.inr rfl, HWW.out _ HB.out⟩ | exact ⟨_, rfl, HWW.out _ HB.out⟩
    · have hji : ¬ (j : Int) < (es.length : Int) := by omega
      clear HE3
      by_cases hm2 : m ≤ 200
      · have hmi : (m : Int) ≤ 200 := by omega
        by_cases hc1 : cn.size ≤ 100
        · have hci : (cn.size : Int) ≤ 100 := by omega
          go_wp2_with (first | go_skip | (go_at_call 15; (with_reducible refine (NF.out _ HB.out).mono ?_); rintro e w7 ⟨rfl, hb⟩; have HB7 := Lib.hid (HB.out.trans (hb.mono HB.out.size)); clear hb))
          go_ret
          first | exact ⟨Or.inl rfl, HWW.out _ HB7.out⟩ | exact ⟨Or.inr rfl, HWW.out _ HB7.out⟩ | exact ⟨_, rfl, HWW.out _ HB7.out⟩
        · have hci : ¬ (cn.size : Int) ≤ 100 := by omega
          go_wp2_with fail
          go_ret
          first | exact ⟨Or.inl rfl, HWW.out _ HB.out⟩ | exact ⟨Or.inr rfl, HWW.out _ HB.out⟩ | exact ⟨_, rfl, HWW.out _ HB.out⟩
      · have hmi : ¬ (m : Int) ≤ 200 := by omega
        go_wp2_with fail
        go_ret
        first | exact ⟨Or.inl rfl, HWW.out _ HB.out⟩ | exact ⟨Or.inr rfl, HWW.out _ HB.out⟩ | exact ⟨_, rfl, HWW.out _ HB.out⟩
end Go.Proofs.YtabdgnigmlpeaaaGreatDoor
