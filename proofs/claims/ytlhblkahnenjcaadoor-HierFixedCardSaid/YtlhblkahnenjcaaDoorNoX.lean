/- The contract of slices.SortFunc at arcs, as the library proves it over any program, laid at this translation's numbers. slices.SortFunc with normal's closure: the row of arcs is sorted by ends, then by weight; nothing else turns. normal.Of at a right graph, whatever its compacting makes: the arcs that are no loops, sorted, compacted. What compacting keeps of a row of arcs, and the row in memory while it is compacted. The normal list of arcs: what is sorted and compacted is what putting arc by arc into a list makes. normal.Reverse: the arcs turned about, in new memory; beside an error nothing. slices.CompactFunc with normal's closure at every row of arcs. normal.Of, whatever it is handed: the document's normal list, or the error. What the normal graph of a graph is, turned about or made normal twice; and the program's calls at right graphs, told by lists. -/
import Derived.Shelf.SlSortCmp.WholeK
import Derived.Shelf.SlGeneric
import Derived.Ground.SlsfProg
import Derived.Test.YtlhblkahnenjcaaDoorProg
import Derived.Test.YtlhblkahnenjcaaDoorCheck
import Derived.Deep.DeepAppendRoom
import Derived.OwnWalk
import Derived.Deep.RegionHeld3
namespace Go.Proofs
open Go.Shelf
def Tryd.sortArc_ren : Go.Shelf.Ren := ⟨fun | 6 => 34 | 15 => 51 | 14 => 50 | 28 => 64 | 29 => 65 | 20 => 56 | 21 => 57 | 22 => 58 | 23 => 59 | 24 => 60 | 25 => 61 | 26 => 62 | 27 => 63 | 46 => 66 | 47 => 67 | 48 => 68 | 49 => 69 | 50 => 70 | 57 => 71 | n => n, fun | 22 => 53 | 24 => 60 | 25 => 88 | 3 => 3 | 39 => 116 | 0 => 0 | 53 => 34 | 55 => 33 | 4 => 4 | 46 => 136 | 45 => 135 | 50 => 140 | 5 => 5 | 9 => 9 | 66 => 144 | 70 => 148 | 76 => 150 | 77 => 151 | n => n, fun | n => n⟩
set_option maxRecDepth 100000 in
theorem Tryd.sortArc : Go.Proofs.SlLaysF0.n6 Tryd.prog Tryd.sortArc_ren := {
  mixed := by kernel_rfl
  f6 := ⟨Tryd.f34.name, by decide, Tryd.func34.trans (congrArg some (by kernel_rfl))⟩
  f14 := ⟨Tryd.f50.name, by decide, Tryd.func50.trans (congrArg some (by kernel_rfl))⟩
  f15 := Tryd.func51.trans (congrArg some (by kernel_rfl))
  f20 := ⟨Tryd.f56.name, by decide, Tryd.func56.trans (congrArg some (by kernel_rfl))⟩
  f21 := ⟨Tryd.f57.name, by decide, Tryd.func57.trans (congrArg some (by kernel_rfl))⟩
  f22 := ⟨Tryd.f58.name, by decide, Tryd.func58.trans (congrArg some (by kernel_rfl))⟩
  f23 := ⟨Tryd.f59.name, by decide, Tryd.func59.trans (congrArg some (by kernel_rfl))⟩
  f24 := ⟨Tryd.f60.name, by decide, Tryd.func60.trans (congrArg some (by kernel_rfl))⟩
  f25 := ⟨Tryd.f61.name, by decide, Tryd.func61.trans (congrArg some (by kernel_rfl))⟩
  f26 := ⟨Tryd.f62.name, by decide, Tryd.func62.trans (congrArg some (by kernel_rfl))⟩
  f27 := ⟨Tryd.f63.name, by decide, Tryd.func63.trans (congrArg some (by kernel_rfl))⟩
  f28 := Tryd.func64.trans (congrArg some (by kernel_rfl))
  f29 := Tryd.func65.trans (congrArg some (by kernel_rfl))
  f46 := ⟨Tryd.f66.name, by decide, Tryd.func66.trans (congrArg some (by kernel_rfl))⟩
  f47 := Tryd.func67.trans (congrArg some (by kernel_rfl))
  f48 := Tryd.func68.trans (congrArg some (by kernel_rfl))
  f49 := ⟨Tryd.f69.name, by decide, Tryd.func69.trans (congrArg some (by kernel_rfl))⟩
  f50 := ⟨Tryd.f70.name, by decide, Tryd.func70.trans (congrArg some (by kernel_rfl))⟩
  f57 := ⟨Tryd.f71.name, by decide, Tryd.func71.trans (congrArg some (by kernel_rfl))⟩
  t0 := Tryd.underlying0
  a0 := Tryd.isAgg0
  z0 := Tryd.sizeOf0
  v0 := Tryd.zeroValue0
  t3 := Tryd.underlying3
  a3 := Tryd.isAgg3
  z3 := Tryd.sizeOf3
  v3 := Tryd.zeroValue3
  t4 := Tryd.underlying4
  a4 := Tryd.isAgg4
  z4 := Tryd.sizeOf4
  v4 := Tryd.zeroValue4
  t5 := Tryd.underlying5
  a5 := Tryd.isAgg5
  z5 := Tryd.sizeOf5
  v5 := Tryd.zeroValue5
  t9 := Tryd.underlying9
  a9 := Tryd.isAgg9
  z9 := Tryd.sizeOf9
  v9 := Tryd.zeroValue9
  t22 := Tryd.underlying53
  a22 := Tryd.isAgg53
  z22 := Tryd.sizeOf53
  v22 := Tryd.zeroValue53
  t25 := Tryd.underlying88
  a25 := Tryd.isAgg88
  z25 := Tryd.sizeOf88
  v25 := Tryd.zeroValue88
  t39 := Tryd.underlying116
  a39 := Tryd.isAgg116
  z39 := Tryd.sizeOf116
  v39 := Tryd.zeroValue116
  t45 := Tryd.underlying135
  a45 := Tryd.isAgg135
  z45 := Tryd.sizeOf135
  v45 := Tryd.zeroValue135
  t46 := Tryd.underlying136
  a46 := Tryd.isAgg136
  z46 := Tryd.sizeOf136
  v46 := Tryd.zeroValue136
  t50 := Tryd.underlying140
  a50 := Tryd.isAgg140
  z50 := Tryd.sizeOf140
  v50 := Tryd.zeroValue140
  t53 := Tryd.underlying34
  a53 := Tryd.isAgg34
  z53 := Tryd.sizeOf34
  v53 := Tryd.zeroValue34
  t55 := Tryd.underlying33
  a55 := Tryd.isAgg33
  z55 := Tryd.sizeOf33
  v55 := Tryd.zeroValue33
  t66 := Tryd.underlying144
  a66 := Tryd.isAgg144
  z66 := Tryd.sizeOf144
  v66 := Tryd.zeroValue144
  t70 := Tryd.underlying148
  a70 := Tryd.isAgg148
  z70 := Tryd.sizeOf148
  v70 := Tryd.zeroValue148
  t76 := Tryd.underlying150
  a76 := Tryd.isAgg150
  z76 := Tryd.sizeOf150
  v76 := Tryd.zeroValue150
  t77 := Tryd.underlying151
  a77 := Tryd.isAgg151
  z77 := Tryd.sizeOf151
  v77 := Tryd.zeroValue151 }
end Go.Proofs

namespace Go.Proofs.YtlhblkahnenjcaaDoor
open Go.RowKit Go.Extern Go.Sort Go.Shelf

/-- an arc's three cells. -/
def encA (x : Int × Int × Int) : List Value := [.int .i64 x.1, .int .i64 x.2.1, .int .i64 x.2.2]
theorem ltA (x y : Int × Int × Int) : ltOf arcI x y = decide (x.1 < y.1 ∨ x.1 = y.1 ∧ (x.2.1 < y.2.1 ∨ x.2.1 = y.2.1 ∧ x.2.2 < y.2.2)) := by
  unfold ltOf arcI endsI orI cmpI
  obtain ⟨x0, x1, x2⟩ := x
  obtain ⟨y0, y1, y2⟩ := y
  simp only
  rw [Bool.eq_iff_iff, decide_eq_true_iff, decide_eq_true_iff]
  by_cases h0 : x0 < y0 <;> by_cases h0' : y0 < x0 <;> by_cases h1 : x1 < y1 <;> by_cases h1' : y1 < x1 <;> by_cases h2 : x2 < y2 <;> by_cases h2' : y2 < x2 <;> simp [h0, h0', h1, h1', h2, h2'] <;> omega
theorem swoA : SWO (ltOf arcI) where
  irrefl x := by rw [ltA]; simp
  trans x y z h1 h2 := by rw [ltA] at *; simp at *; omega
  ntrans x y z h1 h2 := by rw [ltA] at *; simp at *; omega
end Go.Proofs.YtlhblkahnenjcaaDoor

namespace Go.Proofs.YtlhblkahnenjcaaDoor
open Go.RowKit Go.Extern Go.Sort Go.Shelf

attribute [local go_sem] Oper.semAt_some

theorem Tryd.info51 : (Tryd.prog.info? 60).map (fun i => (i.zero, i.size, i.bytes)) = some (some (.agg #[.int .i64 0, .int .i64 0, .int .i64 0]), 3, 24) := by kernel_rfl
/-- the cells of arcs. -/
def flatA (l : List (Int × Int × Int)) : List Value := l.flatMap encA
theorem flatA_len (l : List (Int × Int × Int)) : (flatA l).length = l.length * 3 := by
  induction l with
  | nil => rfl
  | cons a r ih => simp only [flatA, List.flatMap_cons, List.length_append, List.length_cons] at *; rw [ih]; simp [encA]; omega
theorem flatA_append (l r : List (Int × Int × Int)) : flatA (l ++ r) = flatA l ++ flatA r := by simp [flatA]
theorem flatA_get : ∀ (l : List (Int × Int × Int)) (i : Nat) (a : Int × Int × Int), l[i]? = some a → ∀ c, c < 3 → (flatA l)[i * 3 + c]? = some (encA a)[c]!
  | [], i, a, h, c, _ => by simp at h
  | b :: r, 0, a, h, c, hc => by
    simp at h
    subst h
    have e : flatA (b :: r) = encA b ++ flatA r := by simp [flatA]
    rw [e, List.getElem?_append_left (by simp [encA]; omega)]
    rcases (show c = 0 ∨ c = 1 ∨ c = 2 by omega) with rfl | rfl | rfl <;> simp [encA]
  | b :: r, i + 1, a, h, c, hc => by
    have e : flatA (b :: r) = encA b ++ flatA r := by simp [flatA]
    rw [e, List.getElem?_append_right (by simp [encA]; omega)]
    have e2 : (i + 1) * 3 + c - (encA b).length = i * 3 + c := by simp [encA]; omega
    rw [e2]
    exact flatA_get r i a (by simpa using h) c hc
theorem holds_of_row {w : World} {base g n cap : Nat} {l : List (Int × Int × Int)} (hn : n = l.length) (h : w.ownsRow base 60 3 (.slice (some ⟨g, 0, none⟩) n cap) n (flatA l)) : HoldsK encA 3 w g 0 l.toArray := by
  subst hn
  rcases h.2 with ⟨e, _⟩ | ⟨g', cap', cur, e, _, hh, _, _, _, htk⟩
  · cases e
  · cases e
    intro j hj
    rw [size_flatK] at hj
    simp only [List.size_toArray] at hj
    have hi : j / 3 < l.length := by omega
    obtain ⟨a, ha⟩ : ∃ a, l[j / 3]? = some a := ⟨l[j / 3], List.getElem?_eq_getElem hi⟩
    have hc : w.cell? ⟨g, j, none⟩ = some (encA a)[j % 3]! := by
      have hg := flatA_get l (j / 3) a ha (j % 3) (by omega)
      rw [show j / 3 * 3 + j % 3 = j by omega] at hg
      rw [h.cellAt j (by omega)]
      exact hg
    have hd : l.toArray[j / 3]! = a := by
      have := (List.getElem?_eq_some_iff.1 ha).2
      simp [hi, this]
    refine ⟨?_, by simp [World.frozen?, hh]⟩
    rw [Nat.zero_add, hc, get_flatK _ _ _ _ (by simpa using hj), hd]
    rfl

/-- the arcs that are no loops. -/
def kept (xs : List (Int × Int × Int)) : List (Int × Int × Int) := xs.filter fun a => !(a.1 == a.2.1)
/-- they, sorted. -/
def sortedA (xs : List (Int × Int × Int)) : Array (Int × Int × Int) := pdq (ltOf arcI) (kept xs).toArray 0 (kept xs).toArray.size (Lib.bitLen (kept xs).toArray.size) true true
theorem kept_snoc {xs : List (Int × Int × Int)} {k : Nat} {a : Int × Int × Int} (h : xs[k]? = some a) : kept (xs.take (k + 1)) = kept (xs.take k) ++ (if a.1 == a.2.1 then [] else [a]) := by
  obtain ⟨hlt, he⟩ := List.getElem?_eq_some_iff.1 h
  rw [List.take_succ_eq_append_getElem hlt, he]
  unfold kept
  rw [List.filter_append]
  congr 1
  by_cases hb : a.1 == a.2.1 <;> simp [hb]
theorem kept_le (xs : List (Int × Int × Int)) : (kept xs).length ≤ xs.length := List.length_filter_le _ _

theorem row_keep {w w' : World} {base g n cap : Nat} {xs : List Value} (h : w.ownsRow base 60 3 (.slice (some ⟨g, 0, none⟩) n cap) n xs) (hk : w'.heap[g]? = w.heap[g]?) : w'.ownsRow base 60 3 (.slice (some ⟨g, 0, none⟩) n cap) n xs := by
  obtain ⟨h1, h2⟩ := h
  refine ⟨h1, ?_⟩
  rcases h2 with h2 | ⟨g', cap', cur, e, hb, hh, r⟩
  · exact Or.inl h2
  · cases e
    exact Or.inr ⟨g, cap, cur, rfl, hb, hk.trans hh, r⟩
/-- what holds at each round of Of's first loop. -/
structure OfI (w : World) (R : Nat) (N : Int) (ao : Option Addr) (cap : Nat) (xs : List (Int × Int × Int)) (l : List (Int × Int × Int)) (wr : World) : Prop where
  row : wr.ownsRow w.heap.size 60 3 (.slice (some ⟨R, 0, none⟩) l.length xs.length) l.length (flatA l)
  lt : R < wr.heap.size
  box : wr.heap[w.heap.size]? = some (.cells #[.int .i64 N, .slice ao xs.length cap] 24)
  res : wr.heap[w.heap.size + 1]? = some (.cells #[.int .i64 0, .slice none 0 0] 24)
  below : Below w.heap.size w wr
theorem OfI.keep {w : World} {R : Nat} {N : Int} {ao : Option Addr} {cap : Nat} {xs l : List (Int × Int × Int)} {wr wn : World} (h : OfI w R N ao cap xs l wr) (hb : Below wr.heap.size wr wn) : OfI w R N ao cap xs l wn :=
  ⟨row_keep h.row (hb.block _ h.lt), Nat.lt_of_lt_of_le h.lt hb.size, (hb.block _ (lt_of_get h.box)).trans h.box, (hb.block _ (lt_of_get h.res)).trans h.res, h.below.trans (hb.mono h.below.size)⟩

end Go.Proofs.YtlhblkahnenjcaaDoor

namespace Go.Proofs.YtlhblkahnenjcaaDoor
open Go.RowKit Go.Extern Go.Sort Go.Shelf

/-- of the first k arcs of a row those that are not parallel to the one ahead of them. -/
def comp (d : Array (Int × Int × Int)) (k : Nat) : List (Int × Int × Int) := ((List.range k).filter fun j => j == 0 || endsI d[j]! d[j - 1]! != 0).map fun j => d[j]!
theorem comp_succ (d : Array (Int × Int × Int)) (k : Nat) : comp d (k + 1) = comp d k ++ (if (k == 0 || endsI d[k]! d[k - 1]! != 0) = true then [d[k]!] else []) := by
  unfold comp
  rw [List.range_succ, List.filter_append, List.map_append]
  congr 1
  cases hc : (k == 0 || endsI d[k]! d[k - 1]! != 0) with
  | true => simp only [List.filter, hc, if_true]; rfl
  | false => simp only [List.filter, hc, Bool.false_eq_true, if_false]; rfl
theorem comp_len (d : Array (Int × Int × Int)) (k : Nat) : (comp d k).length ≤ k := by
  unfold comp
  rw [List.length_map]
  exact Nat.le_trans (List.length_filter_le _ _) (by simp)
theorem comp_same {d : Array (Int × Int × Int)} {k : Nat} (hk : 0 < k) (h : endsI d[k]! d[k - 1]! = 0) : comp d (k + 1) = comp d k := by
  rw [comp_succ, if_neg (by simp [h]; omega), List.append_nil]
theorem comp_new {d : Array (Int × Int × Int)} {k : Nat} (h : k = 0 ∨ endsI d[k]! d[k - 1]! ≠ 0) : comp d (k + 1) = comp d k ++ [d[k]!] := by
  rw [comp_succ, if_pos (by simp; exact h)]

section
variable {w : World} {b o : Nat} {D : Array (Int × Int × Int)}
theorem holds_at (h : HoldsK encA 3 w b o D) (i : Nat) (hi : i < D.size) : (w.cell? ⟨b, o + i * 3, none⟩ = some (.int .i64 D[i]!.1) ∧ w.cell? ⟨b, o + i * 3 + 1, none⟩ = some (.int .i64 D[i]!.2.1) ∧ w.cell? ⟨b, o + i * 3 + 2, none⟩ = some (.int .i64 D[i]!.2.2)) ∧ w.frozen? ⟨b, o + i * 3, none⟩ = false ∧ w.frozen? ⟨b, o + i * 3 + 1, none⟩ = false ∧ w.frozen? ⟨b, o + i * 3 + 2, none⟩ = false := by
  have hh : ∀ c, c < 3 → w.cell? ⟨b, o + (i * 3 + c), none⟩ = some (encA D[i]!)[c]! ∧ w.frozen? ⟨b, o + (i * 3 + c), none⟩ = false := fun c hc => by
    have h1 := h (i * 3 + c) (by rw [size_flatK]; omega)
    rw [get_flatK _ _ _ _ (by omega), show (i * 3 + c) / 3 = i by omega, show (i * 3 + c) % 3 = c by omega] at h1
    exact h1
  obtain ⟨a0, f0⟩ := hh 0 (by omega)
  obtain ⟨a1, f1⟩ := hh 1 (by omega)
  obtain ⟨a2, f2⟩ := hh 2 (by omega)
  exact ⟨⟨a0, a1, a2⟩, f0, f1, f2⟩
theorem holds_keep {w' : World} (h : HoldsK encA 3 w b o D) (hb : w'.heap[b]? = w.heap[b]?) : HoldsK encA 3 w' b o D := fun j hj =>
  ⟨(World.cell?_of_block hb).trans (h j hj).1, (World.frozen?_of_block hb).trans (h j hj).2⟩
theorem holds_put (h : HoldsK encA 3 w b o D) (i : Nat) (hi : i < D.size) (x : Int × Int × Int) : HoldsK encA 3 (w.setCells b (o + i * 3) (encA x)) b o (D.setIfInBounds i x) := fun j hj => by
  rw [size_flatK, Array.size_setIfInBounds] at hj
  have hj' : j < (flatK encA 3 D).size := by rw [size_flatK]; exact hj
  obtain ⟨h1, h2⟩ := h j hj'
  refine ⟨?_, by rw [World.frozen?_setCells]; exact h2⟩
  rw [get_flatK _ _ _ _ (by simpa using hj)]
  rw [get_flatK _ _ _ _ hj] at h1
  by_cases e : j / 3 = i
  · obtain ⟨c, rfl⟩ : ∃ c, j = i * 3 + c := ⟨j - i * 3, by omega⟩
    have hc : c < (encA x).length := by simp [encA]; omega
    have hin := World.cell?_setCells_in b (encA x) (o + i * 3) w (fun c' hc' => by
      have := (h (i * 3 + c') (by rw [size_flatK]; simp [encA] at hc'; omega)).1
      rw [Nat.add_assoc, this]; rfl) c hc
    rw [Nat.add_assoc] at hin
    rw [e, getElem!_set_same _ _ _ hi, hin]
    show some (encA x)[c] = some (encA x)[(i * 3 + c) % 3]!
    simp [encA] at hc
    rw [show (i * 3 + c) % 3 = c by omega, getElem!_pos (encA x) c (by simp [encA]; omega)]
  · rw [World.cell?_setCells_out _ _ _ _ _ (fun _ _ => by simp [encA]; omega), getElem!_set_other _ _ _ _ e]
    exact h1
end
theorem Touch.cells {b : Nat} {w : World} : ∀ (vs : List Value) (o : Nat) {w' : World}, Touch b w w' → Touch b w (w'.setCells b o vs)
  | [], _, _, h => h
  | v :: r, o, _, h => Touch.cells r (o + 1) ⟨h.os, h.tape, h.output, by simpa using h.size, fun k hk hne => (heap_setCell_other _ _ _ _ hne).trans (h.block k hk hne)⟩
theorem size_cells {b : Nat} : ∀ (vs : List Value) (o : Nat) (w : World), (w.setCells b o vs).heap.size = w.heap.size
  | [], _, _ => rfl
  | v :: r, o, w => (size_cells r (o + 1) _).trans (by simp)
theorem Touch.laid {b : Nat} {w w' wx : World} (h : Touch b w w') (hl : Laid w' wx) : Touch b w wx :=
  ⟨hl.below.os.trans h.os, hl.below.tape.trans h.tape, hl.below.output.trans h.output, Nat.le_trans h.size hl.size, fun k hk hne => (hl.block (Nat.lt_of_lt_of_le hk h.size)).trans (h.block k hk hne)⟩

/-- p arcs have been looked at; the row's first kk are those kept; from the last one looked at on the row is as it was. -/
structure CI (w : World) (b o : Nat) (d : Array (Int × Int × Int)) (wr : World) (D : Array (Int × Int × Int)) (kk p : Nat) : Prop where
  sz : D.size = d.size
  holds : HoldsK encA 3 wr b o D
  lt : b < wr.heap.size
  len : (comp d p).length = kk
  front : ∀ i, i < kk → (comp d p)[i]? = some D[i]!
  rest : ∀ i, p ≤ i + 1 → i < d.size → D[i]! = d[i]!
  touch : Touch b w wr
section
variable {w wr : World} {b o kk p : Nat} {d D : Array (Int × Int × Int)}
theorem CI.laid {wx : World} (h : CI w b o d wr D kk p) (hl : Laid wr wx) : CI w b o d wx D kk p :=
  ⟨h.sz, holds_keep h.holds (hl.block h.lt), Nat.lt_of_lt_of_le h.lt hl.size, h.len, h.front, h.rest, h.touch.laid hl⟩
theorem CI.skip (h : CI w b o d wr D kk p) (hp : 0 < p) (he : endsI d[p]! d[p - 1]! = 0) : CI w b o d wr D kk (p + 1) := by
  have e := comp_same hp he
  exact ⟨h.sz, h.holds, h.lt, by rw [e]; exact h.len, by rw [e]; exact h.front, fun i hi => h.rest i (by omega), h.touch⟩
theorem CI.add (h : CI w b o d wr d p p) (he : p = 0 ∨ endsI d[p]! d[p - 1]! ≠ 0) : CI w b o d wr d (p + 1) (p + 1) := by
  have e := comp_new he
  refine ⟨rfl, h.holds, h.lt, by rw [e, List.length_append, h.len]; rfl, fun i hi => ?_, fun _ _ _ => rfl, h.touch⟩
  rw [e]
  by_cases hlt : i < p
  · rw [List.getElem?_append_left (by rw [h.len]; exact hlt)]; exact h.front i hlt
  · obtain rfl : i = p := by omega
    rw [List.getElem?_append_right (by rw [h.len]; omega), h.len]; simp
theorem CI.put (h : CI w b o d wr D kk p) (hk : kk < p) (hp : p < d.size) (he : endsI d[p]! d[p - 1]! ≠ 0) : CI w b o d (wr.setCells b (o + kk * 3) (encA d[p]!)) (D.setIfInBounds kk d[p]!) (kk + 1) (p + 1) := by
  have e := comp_new (Or.inr he)
  have hkD : kk < D.size := by rw [h.sz]; omega
  refine ⟨by simp [h.sz], holds_put h.holds kk hkD _, by rw [size_cells]; exact h.lt, by rw [e, List.length_append, h.len]; rfl, fun i hi => ?_, fun i hi hi2 => ?_, h.touch.cells _ _⟩
  · rw [e]
    by_cases hlt : i < kk
    · rw [List.getElem?_append_left (by rw [h.len]; exact hlt), getElem!_set_other _ _ _ _ (by omega)]; exact h.front i hlt
    · obtain rfl : i = kk := by omega
      rw [List.getElem?_append_right (by rw [h.len]; omega), h.len, getElem!_set_same _ _ _ hkD]; simp
  · rw [getElem!_set_other _ _ _ _ (by omega)]; exact h.rest i (by omega) hi2
theorem CI.start (hH : HoldsK encA 3 w b o d) (hb : b < w.heap.size) : CI w b o d w d 1 1 :=
  CI.add ⟨rfl, hH, hb, rfl, fun i hi => by omega, fun _ _ _ => rfl, ⟨rfl, rfl, rfl, Nat.le_refl _, fun _ _ _ => rfl⟩⟩ (Or.inl rfl)
/-- what is kept lies in memory. -/
theorem CI.arcs (h : CI w b o d wr D kk p) (hk : kk ≤ d.size) (cap : Nat) : HasArcs wr (.slice (some ⟨b, o, none⟩) kk cap) (comp d p) := by
  refine ⟨_, _, by rw [h.len], fun j a hj => ?_⟩
  have hlt : j < kk := by have := (List.getElem?_eq_some_iff.1 hj).1; rw [h.len] at this; exact this
  obtain rfl : D[j]! = a := Option.some.inj ((h.front j hlt).symm.trans hj)
  obtain ⟨⟨c0, c1, c2⟩, _⟩ := holds_at h.holds j (by rw [h.sz]; omega)
  exact ⟨b, o, rfl, h.lt, c0, c1, c2⟩
end
theorem Tryd.elem22 : Tryd.prog.underlying 53 = some (.slice (Tryd.prog.elem 53)) := by kernel_rfl
theorem Tryd.size22 (w : World) : (sizeOf (Tryd.prog.elem 53)).run Tryd.prog w = .ok 3 w := by kernel_rfl
/-- 's[i:]', i below its length. -/
theorem slice_from (w : World) (b o n m cap i : Nat) (h : n = i + m) (hm : 0 < m) (hc : n ≤ cap) : (Instr.slice 53 (.slice (some ⟨b, o, none⟩) n cap) (some (.int .i64 (i : Int))) none none).run Tryd.prog w = .ok (.slice (some ⟨b, o + i * 3, none⟩) m (cap - i)) w := by
  rw [run_slice_l (ht := Tryd.elem22) (h0 := by omega) (h1 := by omega), Tryd.size22]
  have e2 : (i : Int).toNat = i := by omega
  simp only [Result.andThen_ok, sliced, e2]
  rw [if_neg (by omega)]
  simp [Addr.add]
  omega
/-- 's[:i]'. -/
theorem slice_to (w : World) (b o n cap i : Nat) (h : i ≤ cap) (hc : 0 < cap) : (Instr.slice 53 (.slice (some ⟨b, o, none⟩) n cap) none (some (.int .i64 (i : Int))) none).run Tryd.prog w = .ok (.slice (some ⟨b, o, none⟩) i cap) w := by
  rw [run_slice_h (ht := Tryd.elem22) (h0 := by omega) (h2 := by omega), Tryd.size22]
  have e2 : (i : Int).toNat = i := by omega
  simp only [Result.andThen_ok, sliced, e2]
  rw [if_neg (by omega)]
  simp [Addr.add]
/-- the cells of arcs, wiped. -/
def wiped (m : Nat) : List Value := (Builtin.zeroCells #[.int .i64 0, .int .i64 0, .int .i64 0] m).toList
theorem wiped_len (m : Nat) : (wiped m).length = m * 3 := by simp [wiped, Builtin.zeroCells]
theorem wiped_one (m : Nat) : ∀ v ∈ wiped m, v.oneCell' = true := fun v hv => by
  simp only [wiped, Builtin.zeroCells] at hv
  simp at hv
  obtain ⟨a, _, rfl⟩ := hv
  rcases (show a % 3 = 0 ∨ a % 3 = 1 ∨ a % 3 = 2 by omega) with h | h | h <;> rw [h] <;> rfl
/-- 'clear(s)' of arcs. -/
theorem clear_run (b o m c : Nat) (W : World) (hm : 0 < m) (hc : ∀ j, j < m * 3 → (W.cell? ⟨b, o + j, none⟩).isSome = true) (hf : ∀ j, j < m * 3 → W.frozen? ⟨b, o + j, none⟩ = false) :
    (Builtin.clear_ #[53] 0 #[.slice (some ⟨b, o, none⟩) m c]).run Tryd.prog W = .ok (.tuple #[]) (W.setCells b o (wiped m)) := by
  have hst := run_storeCells_cells (P := Tryd.prog) b o (wiped m) 0 W (by rw [wiped_len]; simpa using hc) (by rw [wiped_len]; simpa using hf) (wiped_one m)
  simp only [Nat.add_zero] at hst
  obtain ⟨m, rfl⟩ : ∃ k, m = k + 1 := ⟨m - 1, by omega⟩
  have hz := Tryd.zeroValue60
  unfold wiped at *
  simp [Builtin.clear_, run_underlying Tryd.underlying53, hz, Value.cells, hst]
end Go.Proofs.YtlhblkahnenjcaaDoor

namespace Go.Proofs.YtlhblkahnenjcaaDoor
open Go.RowKit Go.Extern Go.Sort Go.Shelf

/-- an arc's ends stand ahead of another's. -/
def lessA (a b : Int × Int × Int) : Prop := a.1 < b.1 ∨ a.1 = b.1 ∧ a.2.1 < b.2.1
instance (a b : Int × Int × Int) : Decidable (lessA a b) := by unfold lessA; infer_instance
/-- parallel arcs. -/
def sameA (a b : Int × Int × Int) : Prop := a.1 = b.1 ∧ a.2.1 = b.2.1
instance (a b : Int × Int × Int) : Decidable (sameA a b) := by unfold sameA; infer_instance
theorem endsI_zero (a b : Int × Int × Int) : endsI a b = 0 ↔ sameA a b := by
  unfold endsI orI cmpI sameA
  by_cases h0 : a.1 < b.1 <;> by_cases h1 : b.1 < a.1 <;> by_cases h2 : a.2.1 < b.2.1 <;> by_cases h3 : b.2.1 < a.2.1 <;> simp [h0, h1, h2, h3] <;> omega
theorem endsI_neg (a b : Int × Int × Int) : endsI a b < 0 ↔ lessA a b := by
  unfold endsI orI cmpI lessA
  by_cases h0 : a.1 < b.1 <;> by_cases h1 : b.1 < a.1 <;> by_cases h2 : a.2.1 < b.2.1 <;> by_cases h3 : b.2.1 < a.2.1 <;> simp [h0, h1, h2, h3] <;> omega
theorem sameA_less {a b c : Int × Int × Int} (h : sameA a b) (h2 : lessA b c) : lessA a c := by unfold sameA lessA at *; omega
theorem less_trans {a b c : Int × Int × Int} (h : lessA a b) (h2 : lessA b c) : lessA a c := by unfold lessA at *; omega
theorem less_not_same {a b : Int × Int × Int} (h : lessA a b) : ¬ sameA a b ∧ ¬ sameA b a ∧ ¬ lessA b a := by unfold lessA sameA at *; omega
theorem less_total {a b : Int × Int × Int} (h : ¬ lessA a b) (h2 : ¬ sameA a b) : lessA b a := by unfold lessA sameA at *; omega
theorem sameA.symm {a b : Int × Int × Int} (h : sameA a b) : sameA b a := ⟨h.1.symm, h.2.symm⟩
theorem sameA.trans {a b c : Int × Int × Int} (h : sameA a b) (h2 : sameA b c) : sameA a c := ⟨h.1.trans h2.1, h.2.trans h2.2⟩
theorem arc_ext {a b : Int × Int × Int} (h : sameA a b) (hw : a.2.2 = b.2.2) : a = b := by
  obtain ⟨a0, a1, a2⟩ := a
  obtain ⟨b0, b1, b2⟩ := b
  obtain ⟨h1, h2⟩ := h
  simp only at h1 h2 hw
  rw [h1, h2, hw]

/-- a list that rises. -/
def RiseA (l : List (Int × Int × Int)) : Prop := l.Pairwise lessA
theorem rise_same {l : List (Int × Int × Int)} (h : RiseA l) {a b : Int × Int × Int} (ha : a ∈ l) (hb : b ∈ l) (hs : sameA a b) : a = b := by
  induction l with
  | nil => cases ha
  | cons x r ih =>
    obtain ⟨h1, h2⟩ := List.pairwise_cons.1 h
    rcases List.mem_cons.1 ha with rfl | ha' <;> rcases List.mem_cons.1 hb with rfl | hb'
    · rfl
    · exact absurd hs (less_not_same (h1 b hb')).1
    · exact absurd hs.symm (less_not_same (h1 a ha')).1
    · exact ih h2 ha' hb'
theorem rise_ext : ∀ {l r : List (Int × Int × Int)}, RiseA l → RiseA r → (∀ x, x ∈ l ↔ x ∈ r) → l = r
  | [], [], _, _, _ => rfl
  | [], y :: r, _, _, h => absurd ((h y).2 (by simp)) (by simp)
  | x :: l, [], _, _, h => absurd ((h x).1 (by simp)) (by simp)
  | x :: l, y :: r, hl, hr, h => by
    obtain ⟨a1, a2⟩ := List.pairwise_cons.1 hl
    obtain ⟨b1, b2⟩ := List.pairwise_cons.1 hr
    have e : x = y := by
      rcases List.mem_cons.1 ((h x).1 (by simp)) with e | hx
      · exact e
      · rcases List.mem_cons.1 ((h y).2 (by simp)) with e | hy
        · exact e.symm
        · exact absurd (a1 y hy) (less_not_same (b1 x hx)).2.2
    subst e
    refine congrArg _ (rise_ext a2 b2 fun z => ⟨fun hz => ?_, fun hz => ?_⟩)
    · rcases List.mem_cons.1 ((h z).1 (List.mem_cons_of_mem _ hz)) with e | hz'
      · subst e; exact absurd ⟨rfl, rfl⟩ (less_not_same (a1 z hz)).1
      · exact hz'
    · rcases List.mem_cons.1 ((h z).2 (List.mem_cons_of_mem _ hz)) with e | hz'
      · subst e; exact absurd ⟨rfl, rfl⟩ (less_not_same (b1 z hz)).1
      · exact hz'

/-- the normal list of some arcs. -/
structure NormOf (P : Int × Int × Int → Prop) (l : List (Int × Int × Int)) : Prop where
  rise : RiseA l
  of : ∀ x ∈ l, P x
  all : ∀ y, P y → ∃ b ∈ l, sameA b y ∧ b.2.2 ≤ y.2.2
theorem NormOf.sub {P : Int × Int × Int → Prop} {l r : List (Int × Int × Int)} (hl : NormOf P l) (hr : NormOf P r) {x : Int × Int × Int} (hx : x ∈ l) : x ∈ r := by
  obtain ⟨b, hb, h1, h2⟩ := hr.all x (hl.of x hx)
  obtain ⟨c, hc, h3, h4⟩ := hl.all b (hr.of b hb)
  have e := rise_same hl.rise hc hx (h3.trans h1)
  subst e
  have : b = c := arc_ext h1 (by omega)
  rw [← this]
  exact hb
theorem NormOf.unique {P : Int × Int × Int → Prop} {l r : List (Int × Int × Int)} (hl : NormOf P l) (hr : NormOf P r) : l = r :=
  rise_ext hl.rise hr.rise fun _ => ⟨hl.sub hr, hr.sub hl⟩
theorem NormOf.congr {P Q : Int × Int × Int → Prop} {l : List (Int × Int × Int)} (h : NormOf P l) (e : ∀ x, P x ↔ Q x) : NormOf Q l :=
  ⟨h.rise, fun x hx => (e x).1 (h.of x hx), fun y hy => h.all y ((e y).2 hy)⟩

/-- an arc put into a normal list. -/
def putA : List (Int × Int × Int) → Int × Int × Int → List (Int × Int × Int)
  | [], a => [a]
  | b :: r, a => if lessA b a then b :: putA r a else if sameA b a then (a.1, a.2.1, min a.2.2 b.2.2) :: r else a :: b :: r
theorem put_low : ∀ {l : List (Int × Int × Int)} {a x : Int × Int × Int}, (∀ y ∈ l, lessA x y) → lessA x a → ∀ y ∈ putA l a, lessA x y
  | [], a, x, _, ha, y, hy => by simp [putA] at hy; subst hy; exact ha
  | b :: r, a, x, h, ha, y, hy => by
    unfold putA at hy
    split at hy
    · rcases List.mem_cons.1 hy with rfl | hy
      · exact h y (by simp)
      · exact put_low (fun z hz => h z (List.mem_cons_of_mem _ hz)) ha y hy
    · split at hy
      · rcases List.mem_cons.1 hy with rfl | hy
        · unfold lessA at *; exact ha
        · exact h y (List.mem_cons_of_mem _ hy)
      · rcases List.mem_cons.1 hy with rfl | hy
        · exact ha
        · exact h y hy
theorem put_rise : ∀ {l : List (Int × Int × Int)} {a : Int × Int × Int}, RiseA l → RiseA (putA l a)
  | [], a, _ => List.pairwise_singleton _ _
  | b :: r, a, h => by
    obtain ⟨h1, h2⟩ := List.pairwise_cons.1 h
    unfold putA
    split
    · rename_i hb
      exact List.pairwise_cons.2 ⟨put_low h1 hb, put_rise h2⟩
    · split
      · rename_i hs
        refine List.pairwise_cons.2 ⟨fun y hy => ?_, h2⟩
        have := sameA_less hs.symm (h1 y hy)
        unfold lessA at *; exact this
      · rename_i hb hs
        have hab := less_total hb hs
        refine List.pairwise_cons.2 ⟨fun y hy => ?_, h⟩
        rcases List.mem_cons.1 hy with rfl | hy
        · exact hab
        · exact less_trans hab (h1 y hy)
theorem put_of : ∀ {l : List (Int × Int × Int)} {a x : Int × Int × Int}, x ∈ putA l a → x ∈ l ∨ x = a
  | [], a, x, h => by simp [putA] at h; exact Or.inr h
  | b :: r, a, x, h => by
    unfold putA at h
    split at h
    · rcases List.mem_cons.1 h with rfl | h
      · exact Or.inl (by simp)
      · rcases put_of h with h | h
        · exact Or.inl (List.mem_cons_of_mem _ h)
        · exact Or.inr h
    · split at h
      · rename_i hs
        rcases List.mem_cons.1 h with rfl | h
        · rcases Int.le_total a.2.2 b.2.2 with hw | hw
          · exact Or.inr (arc_ext ⟨rfl, rfl⟩ (by show min _ _ = _; omega))
          · refine Or.inl ?_
            rw [show (a.1, a.2.1, min a.2.2 b.2.2) = b from arc_ext ⟨hs.1.symm, hs.2.symm⟩ (by show min _ _ = _; omega)]
            simp
        · exact Or.inl (List.mem_cons_of_mem _ h)
      · rcases List.mem_cons.1 h with h | h
        · exact Or.inr h
        · exact Or.inl h
theorem put_new : ∀ (l : List (Int × Int × Int)) (a : Int × Int × Int), ∃ b ∈ putA l a, sameA b a ∧ b.2.2 ≤ a.2.2
  | [], a => ⟨a, by simp [putA], ⟨rfl, rfl⟩, Int.le_refl _⟩
  | b :: r, a => by
    unfold putA
    split
    · obtain ⟨c, h1, h2⟩ := put_new r a
      exact ⟨c, List.mem_cons_of_mem _ h1, h2⟩
    · split
      · exact ⟨_, List.mem_cons_self .., ⟨rfl, rfl⟩, by show min _ _ ≤ _; omega⟩
      · exact ⟨a, by simp, ⟨rfl, rfl⟩, Int.le_refl _⟩
theorem put_old : ∀ (l : List (Int × Int × Int)) (a x : Int × Int × Int), x ∈ l → ∃ b ∈ putA l a, sameA b x ∧ b.2.2 ≤ x.2.2
  | b :: r, a, x, hx => by
    unfold putA
    split
    · rcases List.mem_cons.1 hx with rfl | hx
      · exact ⟨x, by simp, ⟨rfl, rfl⟩, Int.le_refl _⟩
      · obtain ⟨c, h1, h2⟩ := put_old r a x hx
        exact ⟨c, List.mem_cons_of_mem _ h1, h2⟩
    · split
      · rename_i hs
        rcases List.mem_cons.1 hx with rfl | hx
        · exact ⟨_, List.mem_cons_self .., hs.symm, by show min _ _ ≤ _; omega⟩
        · exact ⟨x, List.mem_cons_of_mem _ hx, ⟨rfl, rfl⟩, Int.le_refl _⟩
      · exact ⟨x, List.mem_cons_of_mem _ hx, ⟨rfl, rfl⟩, Int.le_refl _⟩
theorem NormOf.put {P : Int × Int × Int → Prop} {l : List (Int × Int × Int)} (h : NormOf P l) (a : Int × Int × Int) : NormOf (fun x => P x ∨ x = a) (putA l a) := by
  refine ⟨put_rise h.rise, fun x hx => (put_of hx).imp (h.of x) id, fun y hy => ?_⟩
  rcases hy with hy | rfl
  · obtain ⟨b, hb, h1, h2⟩ := h.all y hy
    obtain ⟨c, hc, h3, h4⟩ := put_old l a b hb
    exact ⟨c, hc, h3.trans h1, by omega⟩
  · exact put_new l y
/-- the document's normal list. -/
def normA (xs : List (Int × Int × Int)) : List (Int × Int × Int) := (kept xs).foldl putA []
theorem norm_fold : ∀ (r : List (Int × Int × Int)) {P : Int × Int × Int → Prop} {l : List (Int × Int × Int)}, NormOf P l → NormOf (fun x => P x ∨ x ∈ r) (r.foldl putA l)
  | [], _, _, h => h.congr fun x => by simp
  | a :: r, _, _, h => (norm_fold r (h.put a)).congr fun x => by simp only [List.mem_cons]; exact or_assoc
theorem normA_norm (xs : List (Int × Int × Int)) : NormOf (· ∈ kept xs) (normA xs) :=
  (norm_fold (kept xs) (P := fun _ => False) (l := []) ⟨List.Pairwise.nil, fun x h => (by cases h), fun _ h => False.elim h⟩).congr fun x => by simp

/-- a sorted row, compacted, is normal. -/
theorem comp_norm {d : Array (Int × Int × Int)} {n : Nat} (hs : ∀ i j, i < j → j < n → ltOf arcI d[j]! d[i]! = false) : ∀ k, k ≤ n → NormOf (fun x => ∃ j, j < k ∧ x = d[j]!) (comp d k)
  | 0, _ => ⟨List.Pairwise.nil, fun x h => by simp [comp] at h, fun y ⟨j, h, _⟩ => by omega⟩
  | k + 1, hk => by
    have ih := comp_norm hs k (by omega)
    by_cases h : k = 0 ∨ endsI d[k]! d[k - 1]! ≠ 0
    · rw [comp_new h]
      have hl : ∀ j, j < k → lessA d[j]! d[k]! := fun j hj => by
        have h1 := h.resolve_left (by omega)
        rw [Ne, endsI_zero] at h1
        have a1 := hs (k - 1) k (by omega) (by omega)
        have a2 : j = k - 1 ∨ ltOf arcI d[k - 1]! d[j]! = false := by
          by_cases e : j = k - 1
          · exact Or.inl e
          · exact Or.inr (hs j (k - 1) (by omega) (by omega))
        rw [ltA, decide_eq_false_iff_not] at a1
        rcases a2 with rfl | a2
        · unfold lessA sameA at *; omega
        · rw [ltA, decide_eq_false_iff_not] at a2
          unfold lessA sameA at *
          omega
      refine ⟨List.pairwise_append.2 ⟨ih.rise, List.pairwise_singleton _ _, fun a ha c hc => ?_⟩, fun x hx => ?_, fun y ⟨j, hj, e⟩ => ?_⟩
      · obtain ⟨j, hj, rfl⟩ := ih.of a ha
        simp at hc
        rw [hc]
        exact hl j hj
      · rcases List.mem_append.1 hx with hx | hx
        · obtain ⟨j, hj, e⟩ := ih.of x hx
          exact ⟨j, by omega, e⟩
        · simp at hx
          exact ⟨k, by omega, hx⟩
      · by_cases hj' : j < k
        · obtain ⟨b, hb, hh⟩ := ih.all y ⟨j, hj', e⟩
          exact ⟨b, List.mem_append_left _ hb, hh⟩
        · obtain rfl : j = k := by omega
          exact ⟨d[j]!, by simp, by rw [e]; exact ⟨rfl, rfl⟩, by rw [e]; exact Int.le_refl _⟩
    · have hk0 : 0 < k := by omega
      have hz : endsI d[k]! d[k - 1]! = 0 := by
        by_cases hz : endsI d[k]! d[k - 1]! = 0
        · exact hz
        · exact absurd (Or.inr hz) h
      rw [comp_same hk0 hz]
      rw [endsI_zero] at hz
      refine ⟨ih.rise, fun x hx => ?_, fun y ⟨j, hj, e⟩ => ?_⟩
      · obtain ⟨j, hj, e⟩ := ih.of x hx
        exact ⟨j, by omega, e⟩
      · by_cases hj' : j < k
        · exact ih.all y ⟨j, hj', e⟩
        · obtain rfl : j = k := by omega
          obtain ⟨b, hb, h1, h2⟩ := ih.all d[j - 1]! ⟨j - 1, by omega, rfl⟩
          have a1 := hs (j - 1) j (by omega) (by omega)
          rw [ltA, decide_eq_false_iff_not] at a1
          rw [e]
          exact ⟨b, hb, h1.trans hz.symm, by unfold sameA at *; omega⟩
theorem sortedA_size (xs : List (Int × Int × Int)) : (sortedA xs).size = (kept xs).length := by
  have hp := (pdq_sorts (ltOf arcI) swoA (kept xs).toArray 0 (kept xs).toArray.size (Lib.bitLen (kept xs).toArray.size) true true (Nat.zero_le _) (Nat.le_refl _) (Or.inl rfl)).1
  have := hp.1
  simpa [sortedA] using this
/-- what is sorted and compacted is what putting makes. -/
theorem comp_sorted (xs : List (Int × Int × Int)) : comp (sortedA xs) (kept xs).length = normA xs := by
  have hps := pdq_sorts (ltOf arcI) swoA (kept xs).toArray 0 (kept xs).toArray.size (Lib.bitLen (kept xs).toArray.size) true true (Nat.zero_le _) (Nat.le_refl _) (Or.inl rfl)
  have hsz := sortedA_size xs
  have hm : ∀ x, (∃ j, j < (kept xs).length ∧ x = (sortedA xs)[j]!) ↔ x ∈ kept xs := fun x => by
    have hp := hps.1.2.2
    change ((sortedA xs).extract 0 _).toList.Perm _ at hp
    rw [show (kept xs).toArray.size = (sortedA xs).size by rw [hsz]; simp] at hp
    have hx : x ∈ (sortedA xs).toList ↔ x ∈ kept xs := by
      have := hp.mem_iff (a := x)
      rw [hsz] at this
      have e : List.take (kept xs).length (sortedA xs).toList = (sortedA xs).toList := List.take_of_length_le (by rw [Array.length_toList, hsz]; exact Nat.le_refl _)
      simp [e] at this
      simpa using this
    rw [← hx]
    constructor
    · rintro ⟨j, hj, rfl⟩
      rw [← hsz] at hj
      rw [getElem!_pos _ j hj]
      simp
    · intro h
      obtain ⟨j, hj, e⟩ := List.getElem_of_mem h
      simp at hj
      refine ⟨j, by omega, ?_⟩
      rw [getElem!_pos _ j hj]
      simpa using e.symm
  refine NormOf.unique ((comp_norm (n := (kept xs).length) (fun i j h1 h2 => ?_) _ (Nat.le_refl _)).congr hm) (normA_norm xs)
  exact hps.2 i j (Nat.zero_le _) h1 (by simpa using h2)
/-- a list is its own normal list just where it rises and has no loop. -/
theorem norm_self (xs : List (Int × Int × Int)) : normA xs = xs ↔ (∀ a ∈ xs, a.1 ≠ a.2.1) ∧ RiseA xs := by
  constructor
  · intro e
    have h := normA_norm xs
    rw [e] at h
    refine ⟨fun a ha => ?_, h.rise⟩
    have := h.of a ha
    simp [kept] at this
    exact this.2
  · rintro ⟨h1, h2⟩
    have hk : kept xs = xs := by
      unfold kept
      rw [List.filter_eq_self]
      intro a ha
      simp [h1 a ha]
    have h := normA_norm xs
    rw [hk] at h
    exact h.unique ⟨h2, fun x hx => hx, fun y hy => ⟨y, hy, ⟨rfl, rfl⟩, Int.le_refl _⟩⟩
end Go.Proofs.YtlhblkahnenjcaaDoor

namespace Go.Proofs.YtlhblkahnenjcaaDoor
open Go.RowKit Go.Extern Go.Sort Go.Shelf

attribute [local go_sem] Oper.semAt_some

theorem keeps_two {W : World} {b : Nat} {c : Array Value} {t : TypeId} (h : W.heap[b]? = some (.cells c t)) (ht : t ≠ 79) (u v : Value) : Keeps W ((W.setCell ⟨b, 0, none⟩ u).setCell ⟨b, 1, none⟩ v) := fun d x hd => by
  have hne : d ≠ b := fun e => by rw [e, h] at hd; cases hd; exact ht rfl
  rw [heap_setCell_other _ _ _ _ hne, heap_setCell_other _ _ _ _ hne]
  exact hd
/-- an arc turned about. -/
def turn (a : Int × Int × Int) : Int × Int × Int := (a.2.1, a.1, a.2.2)
/-- what holds at each round. -/
structure RevI (w : World) (R : Nat) (N : Int) (ao : Option Addr) (cap : Nat) (xs : List (Int × Int × Int)) (k : Nat) (wr : World) : Prop where
  done : ∀ j a, j < k → xs[j]? = some a → wr.cell? ⟨R, j * 3, none⟩ = some (.int .i64 a.2.1) ∧ wr.cell? ⟨R, j * 3 + 1, none⟩ = some (.int .i64 a.1) ∧ wr.cell? ⟨R, j * 3 + 2, none⟩ = some (.int .i64 a.2.2)
  room : ∀ o, o < xs.length * 3 → ∃ v, wr.cell? ⟨R, o, none⟩ = some v
  free : ∀ o, wr.frozen? ⟨R, o, none⟩ = false
  lt : R < wr.heap.size
  box : wr.heap[w.heap.size]? = some (.cells #[.int .i64 N, .slice ao xs.length cap] 24)
  res : wr.heap[w.heap.size + 1]? = some (.cells #[.int .i64 0, .slice none 0 0] 24)
  below : Below w.heap.size w wr
theorem RevI.keep {w : World} {R : Nat} {N : Int} {ao : Option Addr} {cap : Nat} {xs : List (Int × Int × Int)} {k : Nat} {wr wn : World} (h : RevI w R N ao cap xs k wr) (hb : Below wr.heap.size wr wn) : RevI w R N ao cap xs k wn := by
  have hc : ∀ o, wn.cell? ⟨R, o, none⟩ = wr.cell? ⟨R, o, none⟩ := fun o => hb.cell (p := ⟨R, o, none⟩) h.lt
  refine ⟨fun j a hj ha => ?_, fun o ho => ?_, fun o => ?_, Nat.lt_of_lt_of_le h.lt hb.size, (hb.block _ (lt_of_get h.box)).trans h.box, (hb.block _ (lt_of_get h.res)).trans h.res, h.below.trans (hb.mono h.below.size)⟩
  · rw [hc, hc, hc]; exact h.done j a hj ha
  · rw [hc]; exact h.room o ho
  · have := h.free o
    simp only [World.frozen?, hb.block _ h.lt] at *
    exact this
theorem RevI.next {w : World} {R : Nat} {N : Int} {ao : Option Addr} {cap : Nat} {xs : List (Int × Int × Int)} {k : Nat} {wr : World} (h : RevI w R N ao cap xs k wr) {a : Int × Int × Int} (ha : xs[k]? = some a) (hR : w.heap.size + 1 < R) :
    RevI w R N ao cap xs (k + 1) (((wr.setCell ⟨R, k * 3, none⟩ (.int .i64 a.2.1)).setCell ⟨R, k * 3 + 1, none⟩ (.int .i64 a.1)).setCell ⟨R, k * 3 + 2, none⟩ (.int .i64 a.2.2)) := by
  have hlt := (List.getElem?_eq_some_iff.1 ha).1
  obtain ⟨v0, h0⟩ := h.room (k * 3) (by omega)
  obtain ⟨v1, h1⟩ := h.room (k * 3 + 1) (by omega)
  obtain ⟨v2, h2⟩ := h.room (k * 3 + 2) (by omega)
  have hne : ∀ x y : Nat, x ≠ y → (⟨R, x, none⟩ : Addr) ≠ ⟨R, y, none⟩ := fun x y hxy e => hxy (congrArg Addr.off e)
  have hoth : ∀ o, o ≠ k * 3 → o ≠ k * 3 + 1 → o ≠ k * 3 + 2 → (((wr.setCell ⟨R, k * 3, none⟩ (.int .i64 a.2.1)).setCell ⟨R, k * 3 + 1, none⟩ (.int .i64 a.1)).setCell ⟨R, k * 3 + 2, none⟩ (.int .i64 a.2.2)).cell? ⟨R, o, none⟩ = wr.cell? ⟨R, o, none⟩ := fun o n0 n1 n2 => by
    rw [World.cell?_setCell_other _ _ _ _ (hne _ _ (Ne.symm n2)), World.cell?_setCell_other _ _ _ _ (hne _ _ (Ne.symm n1)), World.cell?_setCell_other _ _ _ _ (hne _ _ (Ne.symm n0))]
  have g1 : (wr.setCell ⟨R, k * 3, none⟩ (.int .i64 a.2.1)).cell? ⟨R, k * 3 + 1, none⟩ = some v1 := (World.cell?_setCell_other _ _ _ _ (hne _ _ (by omega))).trans h1
  have g2 : ((wr.setCell ⟨R, k * 3, none⟩ (.int .i64 a.2.1)).setCell ⟨R, k * 3 + 1, none⟩ (.int .i64 a.1)).cell? ⟨R, k * 3 + 2, none⟩ = some v2 := (World.cell?_setCell_other _ _ _ _ (hne _ _ (by omega))).trans ((World.cell?_setCell_other _ _ _ _ (hne _ _ (by omega))).trans h2)
  have c0 : (((wr.setCell ⟨R, k * 3, none⟩ (.int .i64 a.2.1)).setCell ⟨R, k * 3 + 1, none⟩ (.int .i64 a.1)).setCell ⟨R, k * 3 + 2, none⟩ (.int .i64 a.2.2)).cell? ⟨R, k * 3, none⟩ = some (.int .i64 a.2.1) := by
    rw [World.cell?_setCell_other _ _ _ _ (hne _ _ (by omega)), World.cell?_setCell_other _ _ _ _ (hne _ _ (by omega)), World.cell?_setCell_same _ _ _ h0]
  have c1 : (((wr.setCell ⟨R, k * 3, none⟩ (.int .i64 a.2.1)).setCell ⟨R, k * 3 + 1, none⟩ (.int .i64 a.1)).setCell ⟨R, k * 3 + 2, none⟩ (.int .i64 a.2.2)).cell? ⟨R, k * 3 + 1, none⟩ = some (.int .i64 a.1) := by
    rw [World.cell?_setCell_other _ _ _ _ (hne _ _ (by omega)), World.cell?_setCell_same _ _ _ g1]
  have c2 : (((wr.setCell ⟨R, k * 3, none⟩ (.int .i64 a.2.1)).setCell ⟨R, k * 3 + 1, none⟩ (.int .i64 a.1)).setCell ⟨R, k * 3 + 2, none⟩ (.int .i64 a.2.2)).cell? ⟨R, k * 3 + 2, none⟩ = some (.int .i64 a.2.2) := World.cell?_setCell_same _ _ _ g2
  refine ⟨fun j b hj hb => ?_, fun o ho => ?_, fun o => ?_, by simp; exact h.lt, ?_, ?_, ?_⟩
  · by_cases hjk : j = k
    · subst hjk
      obtain rfl : a = b := Option.some.inj (ha.symm.trans hb)
      exact ⟨c0, c1, c2⟩
    · rw [hoth _ (by omega) (by omega) (by omega), hoth _ (by omega) (by omega) (by omega), hoth _ (by omega) (by omega) (by omega)]
      exact h.done j b (by omega) hb
  · by_cases e0 : o = k * 3
    · subst e0; exact ⟨_, c0⟩
    · by_cases e1 : o = k * 3 + 1
      · subst e1; exact ⟨_, c1⟩
      · by_cases e2 : o = k * 3 + 2
        · subst e2; exact ⟨_, c2⟩
        · rw [hoth o e0 e1 e2]; exact h.room o ho
  · simp; exact h.free o
  · rw [heap_setCell_other _ _ _ _ (by show w.heap.size ≠ R; omega), heap_setCell_other _ _ _ _ (by show w.heap.size ≠ R; omega), heap_setCell_other _ _ _ _ (by show w.heap.size ≠ R; omega)]; exact h.box
  · rw [heap_setCell_other _ _ _ _ (by show w.heap.size + 1 ≠ R; omega), heap_setCell_other _ _ _ _ (by show w.heap.size + 1 ≠ R; omega), heap_setCell_other _ _ _ _ (by show w.heap.size + 1 ≠ R; omega)]; exact h.res
  · exact ((h.below.setCell (p := ⟨R, k * 3, none⟩) (by show w.heap.size ≤ R; omega) _).setCell (p := ⟨R, k * 3 + 1, none⟩) (by show w.heap.size ≤ R; omega) _).setCell (p := ⟨R, k * 3 + 2, none⟩) (by show w.heap.size ≤ R; omega) _

end Go.Proofs.YtlhblkahnenjcaaDoor

namespace Go.Proofs.YtlhblkahnenjcaaDoor
open Go.RowKit Go.Extern Go.Sort Go.Shelf

attribute [local go_sem] Oper.semAt_some

theorem CI.done {w wr : World} {b o kk p : Nat} {d D : Array (Int × Int × Int)} (h : CI w b o d wr D kk p) (hk : kk ≤ d.size) (cap : Nat) (vs : List Value) : HasArcs (wr.setCells b (o + kk * 3) vs) (.slice (some ⟨b, o, none⟩) kk cap) (comp d p) ∧ Touch b w (wr.setCells b (o + kk * 3) vs) := by
  refine ⟨⟨_, _, by rw [h.len], fun j a hj => ?_⟩, h.touch.cells _ _⟩
  have hlt : j < kk := by have := (List.getElem?_eq_some_iff.1 hj).1; rw [h.len] at this; exact this
  obtain rfl : D[j]! = a := Option.some.inj ((h.front j hlt).symm.trans hj)
  obtain ⟨⟨c0, c1, c2⟩, _⟩ := holds_at h.holds j (by rw [h.sz]; omega)
  have keep : ∀ c, c < kk * 3 → (wr.setCells b (o + kk * 3) vs).cell? ⟨b, o + c, none⟩ = wr.cell? ⟨b, o + c, none⟩ := fun c hc => World.cell?_setCells_out _ _ _ _ _ (fun _ _ => Or.inl (by simp; omega))
  exact ⟨b, o, rfl, by rw [size_cells]; exact h.lt, (keep (j * 3) (by omega)).trans c0, (keep (j * 3 + 1) (by omega)).trans c1, (keep (j * 3 + 2) (by omega)).trans c2⟩

end Go.Proofs.YtlhblkahnenjcaaDoor

namespace Go.Proofs.YtlhblkahnenjcaaDoor
open Go.RowKit Go.Extern Go.Sort Go.Shelf

theorem normA_len (xs : List (Int × Int × Int)) : (normA xs).length ≤ xs.length := by
  rw [← comp_sorted]
  exact Nat.le_trans (comp_len _ _) (kept_le xs)

end Go.Proofs.YtlhblkahnenjcaaDoor

namespace Go.Proofs.YtlhblkahnenjcaaDoor
open Go.RowKit Go.Extern

theorem firstBad_none (N : Int) : ∀ (xs : List (Int × Int × Int)) (i : Nat), firstBad N xs i = none ↔ ∀ a ∈ xs, arcBad N a = 0
  | [], i => by simp [firstBad]
  | a :: r, i => by
    unfold firstBad
    by_cases h : arcBad N a = 0
    · rw [if_pos h, firstBad_none N r (i + 1)]
      simp [h]
    · rw [if_neg h]
      simp [h]
theorem good_iff (N : Int) (xs : List (Int × Int × Int)) : graphErr N xs = (0, []) ↔ (¬ (N < 0 ∨ 65536 < N ∨ 262144 < xs.length)) ∧ ∀ a ∈ xs, arcBad N a = 0 := by
  unfold graphErr
  by_cases h : N < 0 ∨ 65536 < N ∨ 262144 < xs.length
  · rw [if_pos h]; simp [h]
  · rw [if_neg h]
    cases hf : firstBad N xs 0 with
    | none => exact ⟨fun _ => ⟨h, (firstBad_none N xs 0).1 hf⟩, fun _ => rfl⟩
    | some q =>
      obtain ⟨i, c⟩ := q
      simp only [Prod.mk.injEq, List.cons_ne_nil, and_false, false_iff]
      rintro ⟨_, h2⟩
      rw [(firstBad_none N xs 0).2 h2] at hf
      cases hf
theorem kept_mem {xs : List (Int × Int × Int)} {a : Int × Int × Int} : a ∈ kept xs ↔ a ∈ xs ∧ a.1 ≠ a.2.1 := by
  unfold kept
  simp [List.mem_filter]
theorem norm_sub {xs : List (Int × Int × Int)} {a : Int × Int × Int} (h : a ∈ normA xs) : a ∈ xs ∧ a.1 ≠ a.2.1 := kept_mem.1 ((normA_norm xs).of a h)
theorem good_norm {N : Int} {xs : List (Int × Int × Int)} (h : graphErr N xs = (0, [])) : graphErr N (normA xs) = (0, []) := by
  rw [good_iff] at *
  have := normA_len xs
  exact ⟨by omega, fun a ha => h.2 a (norm_sub ha).1⟩
theorem turn_turn (xs : List (Int × Int × Int)) : (xs.map turn).map turn = xs := by
  rw [List.map_map]
  have : turn ∘ turn = id := by funext a; rfl
  rw [this, List.map_id]
theorem good_turn {N : Int} {xs : List (Int × Int × Int)} (h : graphErr N xs = (0, [])) : graphErr N (xs.map turn) = (0, []) := by
  rw [good_iff] at *
  rw [List.length_map]
  refine ⟨h.1, fun a ha => ?_⟩
  obtain ⟨b, hb, rfl⟩ := List.mem_map.1 ha
  have := h.2 b hb
  unfold arcBad turn at *
  simp only at *
  split at this
  · cases this
  · split at this
    · cases this
    · rw [if_neg (by omega), if_neg (by omega)]
theorem norm_twice (xs : List (Int × Int × Int)) : normA (normA xs) = normA xs := (norm_self _).2 ⟨fun _ ha => (norm_sub ha).2, (normA_norm xs).rise⟩
theorem mem_turn {l : List (Int × Int × Int)} {a : Int × Int × Int} : a ∈ l.map turn ↔ turn a ∈ l := by
  rw [List.mem_map]
  constructor
  · rintro ⟨b, hb, rfl⟩; exact hb
  · intro h; exact ⟨turn a, h, rfl⟩
/-- the normal graph of what is turned is that of the turned normal graph. -/
theorem norm_turn (xs : List (Int × Int × Int)) : normA (xs.map turn) = normA ((normA xs).map turn) := by
  refine NormOf.unique (normA_norm (xs.map turn)) ?_
  have h := normA_norm ((normA xs).map turn)
  refine ⟨h.rise, fun x hx => ?_, fun y hy => ?_⟩
  · obtain ⟨h1, h2⟩ := kept_mem.1 (h.of x hx)
    exact kept_mem.2 ⟨mem_turn.2 (norm_sub (mem_turn.1 h1)).1, h2⟩
  · obtain ⟨h1, h2⟩ := kept_mem.1 hy
    obtain ⟨b, hb, hs, hw⟩ := (normA_norm xs).all (turn y) (kept_mem.2 ⟨mem_turn.1 h1, Ne.symm h2⟩)
    obtain ⟨c, hc, hs2, hw2⟩ := h.all (turn b) (kept_mem.2 ⟨List.mem_map.2 ⟨b, hb, rfl⟩, Ne.symm (norm_sub hb).2⟩)
    refine ⟨c, hc, ?_, Int.le_trans hw2 hw⟩
    unfold sameA turn at *
    simp only at *
    exact ⟨hs2.1.trans hs.2, hs2.2.trans hs.1⟩
theorem norm_rise (xs : List (Int × Int × Int)) {i : Nat} {a b : Int × Int × Int} (ha : (normA xs)[i]? = some a) (hb : (normA xs)[i + 1]? = some b) : lessA a b := by
  have h := (normA_norm xs).rise
  unfold RiseA at h
  rw [List.pairwise_iff_getElem] at h
  obtain ⟨h1, e1⟩ := List.getElem?_eq_some_iff.1 ha
  obtain ⟨h2, e2⟩ := List.getElem?_eq_some_iff.1 hb
  have := h i (i + 1) h1 h2 (Nat.lt_succ_self _)
  rwa [e1, e2] at this

theorem told_iface {w : World} {e : Int × List (Int × Int)} {v : Value} (h : IsTold w e v) (he : e ≠ (0, [])) : ∃ T x, v = .iface T x := by
  rcases h with ⟨h1, _⟩ | ⟨_, h2⟩
  · exact absurd h1 he
  · obtain ⟨c, ps⟩ := e
    cases ps with
    | nil => exact ⟨_, _, h2⟩
    | cons p r => obtain ⟨b, u, e, _⟩ := h2; exact ⟨_, _, e⟩
theorem told_ok {w : World} {v : Value} (h : IsTold w (0, []) v) : v = .nilIface := by
  rcases h with ⟨_, h2⟩ | ⟨h1, _⟩
  · exact h2
  · exact absurd rfl h1

section
variable {N : Int} {ao : Option Addr} {n cap : Nat} {xs : List (Int × Int × Int)} {w : World}
theorem arcs_len (h : HasArcs w (.slice ao n cap) xs) : n = xs.length := by
  obtain ⟨ao', cap', e, _⟩ := h
  injection e
end
end Go.Proofs.YtlhblkahnenjcaaDoor
