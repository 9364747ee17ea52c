/- The contract of slices.SortFunc at arcs, as the library proves it over any program, laid at this translation's numbers. slices.SortFunc with normal's closure: the row of arcs is sorted by ends, then by weight; nothing else turns. normal.Of at a right graph, whatever its compacting makes: the arcs that are no loops, sorted, compacted. What compacting keeps of a row of arcs, and the row in memory while it is compacted. The normal list of arcs: what is sorted and compacted is what putting arc by arc into a list makes. normal.Reverse: the arcs turned about, in new memory; beside an error nothing. slices.CompactFunc with normal's closure at every row of arcs. normal.Of, whatever it is handed: the document's normal list, or the error. What the normal graph of a graph is, turned about or made normal twice; and the program's calls at right graphs, told by lists. slices.Grow of no list, and slices.Concat of two lists of arcs: a new row that holds both, one behind the other. viaductref04.less; a list's two pieces; where an arc is put. viaductref04.Put: an arc put into a normal list, in new memory. viaductref04.Reverse and DocReverse: the document's answer, arc by arc. viaductref04.Of: the document's normal list, arc by arc. -/
import Derived.Shelf.SlSortCmp.WholeK
import Derived.Shelf.SlGeneric
import Derived.Ground.SlsfProg
import Derived.Test.YtkehpmbnbknpfaaProg
import Derived.Test.YtkehpmbnbknpfaaCheck
import Derived.Deep.DeepAppendRoom
import Derived.OwnWalk
import Derived.Deep.RegionHeld3
import Derived.Lib.AppendZeros
import Derived.Laws.AppendOwnNone
import Derived.BigRegion
import Derived.Test.YtkehpmbnbknpfaaDocCheck
namespace Go.Proofs
open Go.Shelf
def Try.sortArc_ren : Go.Shelf.Ren := ⟨fun | 6 => 30 | 15 => 50 | 14 => 49 | 28 => 75 | 29 => 76 | 20 => 67 | 21 => 68 | 22 => 69 | 23 => 70 | 24 => 71 | 25 => 72 | 26 => 73 | 27 => 74 | 46 => 80 | 47 => 81 | 48 => 82 | 49 => 83 | 50 => 84 | 57 => 86 | n => n, fun | 22 => 33 | 24 => 49 | 25 => 79 | 3 => 3 | 39 => 95 | 0 => 0 | 53 => 43 | 55 => 45 | 4 => 4 | 46 => 121 | 45 => 120 | 50 => 125 | 5 => 5 | 9 => 9 | 66 => 137 | 70 => 141 | 76 => 144 | 77 => 145 | n => n, fun | n => n⟩
theorem Try.sortArc : Go.Proofs.SlLaysF0.n6 Try.prog Try.sortArc_ren := {
  mixed := by kernel_rfl
  f6 := ⟨Try.f30.name, by decide, Try.func30.trans (congrArg some (by kernel_rfl))⟩
  f14 := ⟨Try.f49.name, by decide, Try.func49.trans (congrArg some (by kernel_rfl))⟩
  f15 := Try.func50.trans (congrArg some (by kernel_rfl))
  f20 := ⟨Try.f67.name, by decide, Try.func67.trans (congrArg some (by kernel_rfl))⟩
  f21 := ⟨Try.f68.name, by decide, Try.func68.trans (congrArg some (by kernel_rfl))⟩
  f22 := ⟨Try.f69.name, by decide, Try.func69.trans (congrArg some (by kernel_rfl))⟩
  f23 := ⟨Try.f70.name, by decide, Try.func70.trans (congrArg some (by kernel_rfl))⟩
  f24 := ⟨Try.f71.name, by decide, Try.func71.trans (congrArg some (by kernel_rfl))⟩
  f25 := ⟨Try.f72.name, by decide, Try.func72.trans (congrArg some (by kernel_rfl))⟩
  f26 := ⟨Try.f73.name, by decide, Try.func73.trans (congrArg some (by kernel_rfl))⟩
  f27 := ⟨Try.f74.name, by decide, Try.func74.trans (congrArg some (by kernel_rfl))⟩
  f28 := Try.func75.trans (congrArg some (by kernel_rfl))
  f29 := Try.func76.trans (congrArg some (by kernel_rfl))
  f46 := ⟨Try.f80.name, by decide, Try.func80.trans (congrArg some (by kernel_rfl))⟩
  f47 := Try.func81.trans (congrArg some (by kernel_rfl))
  f48 := Try.func82.trans (congrArg some (by kernel_rfl))
  f49 := ⟨Try.f83.name, by decide, Try.func83.trans (congrArg some (by kernel_rfl))⟩
  f50 := ⟨Try.f84.name, by decide, Try.func84.trans (congrArg some (by kernel_rfl))⟩
  f57 := ⟨Try.f86.name, by decide, Try.func86.trans (congrArg some (by kernel_rfl))⟩
  t0 := Try.underlying0
  a0 := Try.isAgg0
  z0 := Try.sizeOf0
  v0 := Try.zeroValue0
  t3 := Try.underlying3
  a3 := Try.isAgg3
  z3 := Try.sizeOf3
  v3 := Try.zeroValue3
  t4 := Try.underlying4
  a4 := Try.isAgg4
  z4 := Try.sizeOf4
  v4 := Try.zeroValue4
  t5 := Try.underlying5
  a5 := Try.isAgg5
  z5 := Try.sizeOf5
  v5 := Try.zeroValue5
  t9 := Try.underlying9
  a9 := Try.isAgg9
  z9 := Try.sizeOf9
  v9 := Try.zeroValue9
  t22 := Try.underlying33
  a22 := Try.isAgg33
  z22 := Try.sizeOf33
  v22 := Try.zeroValue33
  t25 := Try.underlying79
  a25 := Try.isAgg79
  z25 := Try.sizeOf79
  v25 := Try.zeroValue79
  t39 := Try.underlying95
  a39 := Try.isAgg95
  z39 := Try.sizeOf95
  v39 := Try.zeroValue95
  t45 := Try.underlying120
  a45 := Try.isAgg120
  z45 := Try.sizeOf120
  v45 := Try.zeroValue120
  t46 := Try.underlying121
  a46 := Try.isAgg121
  z46 := Try.sizeOf121
  v46 := Try.zeroValue121
  t50 := Try.underlying125
  a50 := Try.isAgg125
  z50 := Try.sizeOf125
  v50 := Try.zeroValue125
  t53 := Try.underlying43
  a53 := Try.isAgg43
  z53 := Try.sizeOf43
  v53 := Try.zeroValue43
  t55 := Try.underlying45
  a55 := Try.isAgg45
  z55 := Try.sizeOf45
  v55 := Try.zeroValue45
  t66 := Try.underlying137
  a66 := Try.isAgg137
  z66 := Try.sizeOf137
  v66 := Try.zeroValue137
  t70 := Try.underlying141
  a70 := Try.isAgg141
  z70 := Try.sizeOf141
  v70 := Try.zeroValue141
  t76 := Try.underlying144
  a76 := Try.isAgg144
  z76 := Try.sizeOf144
  v76 := Try.zeroValue144
  t77 := Try.underlying145
  a77 := Try.isAgg145
  z77 := Try.sizeOf145
  v77 := Try.zeroValue145 }
end Go.Proofs

namespace Go.Proofs.Ytkehpmbnbknpfaa
open Go.RowKit Go.Extern Go.Sort Go.Shelf

/-- an arc's three cells. -/
def encA (x : Int × Int × Int) : List Value := [.int .i64 x.1, .int .i64 x.2.1, .int .i64 x.2.2]
theorem ltA (x y : Int × Int × Int) : ltOf arcI x y = decide (x.1 < y.1 ∨ x.1 = y.1 ∧ (x.2.1 < y.2.1 ∨ x.2.1 = y.2.1 ∧ x.2.2 < y.2.2)) := by
  unfold ltOf arcI endsI orI cmpI
  obtain ⟨x0, x1, x2⟩ := x
  obtain ⟨y0, y1, y2⟩ := y
  simp only
  rw [Bool.eq_iff_iff, decide_eq_true_iff, decide_eq_true_iff]
  by_cases h0 : x0 < y0 <;> by_cases h0' : y0 < x0 <;> by_cases h1 : x1 < y1 <;> by_cases h1' : y1 < x1 <;> by_cases h2 : x2 < y2 <;> by_cases h2' : y2 < x2 <;> simp [h0, h0', h1, h1', h2, h2'] <;> omega
theorem swoA : SWO (ltOf arcI) where
  irrefl x := by rw [ltA]; simp
  trans x y z h1 h2 := by rw [ltA] at *; simp at *; omega
  ntrans x y z h1 h2 := by rw [ltA] at *; simp at *; omega
end Go.Proofs.Ytkehpmbnbknpfaa

namespace Go.Proofs.Ytkehpmbnbknpfaa
open Go.RowKit Go.Extern Go.Sort Go.Shelf

attribute [local go_sem] Oper.semAt_some

theorem Try.info51 : (Try.prog.info? 49).map (fun i => (i.zero, i.size, i.bytes)) = some (some (.agg #[.int .i64 0, .int .i64 0, .int .i64 0]), 3, 24) := by kernel_rfl
/-- the cells of arcs. -/
def flatA (l : List (Int × Int × Int)) : List Value := l.flatMap encA
theorem flatA_len (l : List (Int × Int × Int)) : (flatA l).length = l.length * 3 := by
  induction l with
  | nil => rfl
  | cons a r ih => simp only [flatA, List.flatMap_cons, List.length_append, List.length_cons] at *; rw [ih]; simp [encA]; omega
theorem flatA_append (l r : List (Int × Int × Int)) : flatA (l ++ r) = flatA l ++ flatA r := by simp [flatA]
theorem flatA_get : ∀ (l : List (Int × Int × Int)) (i : Nat) (a : Int × Int × Int), l[i]? = some a → ∀ c, c < 3 → (flatA l)[i * 3 + c]? = some (encA a)[c]!
  | [], i, a, h, c, _ => by simp at h
  | b :: r, 0, a, h, c, hc => by
    simp at h
    subst h
    have e : flatA (b :: r) = encA b ++ flatA r := by simp [flatA]
    rw [e, List.getElem?_append_left (by simp [encA]; omega)]
    rcases (show c = 0 ∨ c = 1 ∨ c = 2 by omega) with rfl | rfl | rfl <;> simp [encA]
  | b :: r, i + 1, a, h, c, hc => by
    have e : flatA (b :: r) = encA b ++ flatA r := by simp [flatA]
    rw [e, List.getElem?_append_right (by simp [encA]; omega)]
    have e2 : (i + 1) * 3 + c - (encA b).length = i * 3 + c := by simp [encA]; omega
    rw [e2]
    exact flatA_get r i a (by simpa using h) c hc
theorem holds_of_row {w : World} {base g n cap : Nat} {l : List (Int × Int × Int)} (hn : n = l.length) (h : w.ownsRow base 49 3 (.slice (some ⟨g, 0, none⟩) n cap) n (flatA l)) : HoldsK encA 3 w g 0 l.toArray := by
  subst hn
  rcases h.2 with ⟨e, _⟩ | ⟨g', cap', cur, e, _, hh, _, _, _, htk⟩
  · cases e
  · cases e
    intro j hj
    rw [size_flatK] at hj
    simp only [List.size_toArray] at hj
    have hi : j / 3 < l.length := by omega
    obtain ⟨a, ha⟩ : ∃ a, l[j / 3]? = some a := ⟨l[j / 3], List.getElem?_eq_getElem hi⟩
    have hc : w.cell? ⟨g, j, none⟩ = some (encA a)[j % 3]! := by
      have hg := flatA_get l (j / 3) a ha (j % 3) (by omega)
      rw [show j / 3 * 3 + j % 3 = j by omega] at hg
      rw [h.cellAt j (by omega)]
      exact hg
    have hd : l.toArray[j / 3]! = a := by
      have := (List.getElem?_eq_some_iff.1 ha).2
      simp [hi, this]
    refine ⟨?_, by simp [World.frozen?, hh]⟩
    rw [Nat.zero_add, hc, get_flatK _ _ _ _ (by simpa using hj), hd]
    rfl

/-- the arcs that are no loops. -/
def kept (xs : List (Int × Int × Int)) : List (Int × Int × Int) := xs.filter fun a => !(a.1 == a.2.1)
/-- they, sorted. -/
def sortedA (xs : List (Int × Int × Int)) : Array (Int × Int × Int) := pdq (ltOf arcI) (kept xs).toArray 0 (kept xs).toArray.size (Lib.bitLen (kept xs).toArray.size) true true
theorem kept_snoc {xs : List (Int × Int × Int)} {k : Nat} {a : Int × Int × Int} (h : xs[k]? = some a) : kept (xs.take (k + 1)) = kept (xs.take k) ++ (if a.1 == a.2.1 then [] else [a]) := by
  obtain ⟨hlt, he⟩ := List.getElem?_eq_some_iff.1 h
  rw [List.take_succ_eq_append_getElem hlt, he]
  unfold kept
  rw [List.filter_append]
  congr 1
  by_cases hb : a.1 == a.2.1 <;> simp [hb]
theorem kept_le (xs : List (Int × Int × Int)) : (kept xs).length ≤ xs.length := List.length_filter_le _ _

theorem row_keep {w w' : World} {base g n cap : Nat} {xs : List Value} (h : w.ownsRow base 49 3 (.slice (some ⟨g, 0, none⟩) n cap) n xs) (hk : w'.heap[g]? = w.heap[g]?) : w'.ownsRow base 49 3 (.slice (some ⟨g, 0, none⟩) n cap) n xs := by
  obtain ⟨h1, h2⟩ := h
  refine ⟨h1, ?_⟩
  rcases h2 with h2 | ⟨g', cap', cur, e, hb, hh, r⟩
  · exact Or.inl h2
  · cases e
    exact Or.inr ⟨g, cap, cur, rfl, hb, hk.trans hh, r⟩
/-- what holds at each round of Of's first loop. -/
structure OfI (w : World) (R : Nat) (N : Int) (ao : Option Addr) (cap : Nat) (xs : List (Int × Int × Int)) (l : List (Int × Int × Int)) (wr : World) : Prop where
  row : wr.ownsRow w.heap.size 49 3 (.slice (some ⟨R, 0, none⟩) l.length xs.length) l.length (flatA l)
  lt : R < wr.heap.size
  box : wr.heap[w.heap.size]? = some (.cells #[.int .i64 N, .slice ao xs.length cap] 35)
  res : wr.heap[w.heap.size + 1]? = some (.cells #[.int .i64 0, .slice none 0 0] 35)
  below : Below w.heap.size w wr
theorem OfI.keep {w : World} {R : Nat} {N : Int} {ao : Option Addr} {cap : Nat} {xs l : List (Int × Int × Int)} {wr wn : World} (h : OfI w R N ao cap xs l wr) (hb : Below wr.heap.size wr wn) : OfI w R N ao cap xs l wn :=
  ⟨row_keep h.row (hb.block _ h.lt), Nat.lt_of_lt_of_le h.lt hb.size, (hb.block _ (lt_of_get h.box)).trans h.box, (hb.block _ (lt_of_get h.res)).trans h.res, h.below.trans (hb.mono h.below.size)⟩

end Go.Proofs.Ytkehpmbnbknpfaa

namespace Go.Proofs.Ytkehpmbnbknpfaa
open Go.RowKit Go.Extern Go.Sort Go.Shelf

/-- of the first k arcs of a row those that are not parallel to the one ahead of them. -/
def comp (d : Array (Int × Int × Int)) (k : Nat) : List (Int × Int × Int) := ((List.range k).filter fun j => j == 0 || endsI d[j]! d[j - 1]! != 0).map fun j => d[j]!
theorem comp_succ (d : Array (Int × Int × Int)) (k : Nat) : comp d (k + 1) = comp d k ++ (if (k == 0 || endsI d[k]! d[k - 1]! != 0) = true then [d[k]!] else []) := by
  unfold comp
  rw [List.range_succ, List.filter_append, List.map_append]
  congr 1
  cases hc : (k == 0 || endsI d[k]! d[k - 1]! != 0) with
  | true => simp only [List.filter, hc, if_true]; rfl
  | false => simp only [List.filter, hc, Bool.false_eq_true, if_false]; rfl
theorem comp_len (d : Array (Int × Int × Int)) (k : Nat) : (comp d k).length ≤ k := by
  unfold comp
  rw [List.length_map]
  exact Nat.le_trans (List.length_filter_le _ _) (by simp)
theorem comp_same {d : Array (Int × Int × Int)} {k : Nat} (hk : 0 < k) (h : endsI d[k]! d[k - 1]! = 0) : comp d (k + 1) = comp d k := by
  rw [comp_succ, if_neg (by simp [h]; omega), List.append_nil]
theorem comp_new {d : Array (Int × Int × Int)} {k : Nat} (h : k = 0 ∨ endsI d[k]! d[k - 1]! ≠ 0) : comp d (k + 1) = comp d k ++ [d[k]!] := by
  rw [comp_succ, if_pos (by simp; exact h)]

section
variable {w : World} {b o : Nat} {D : Array (Int × Int × Int)}
theorem holds_at (h : HoldsK encA 3 w b o D) (i : Nat) (hi : i < D.size) : (w.cell? ⟨b, o + i * 3, none⟩ = some (.int .i64 D[i]!.1) ∧ w.cell? ⟨b, o + i * 3 + 1, none⟩ = some (.int .i64 D[i]!.2.1) ∧ w.cell? ⟨b, o + i * 3 + 2, none⟩ = some (.int .i64 D[i]!.2.2)) ∧ w.frozen? ⟨b, o + i * 3, none⟩ = false ∧ w.frozen? ⟨b, o + i * 3 + 1, none⟩ = false ∧ w.frozen? ⟨b, o + i * 3 + 2, none⟩ = false := by
  have hh : ∀ c, c < 3 → w.cell? ⟨b, o + (i * 3 + c), none⟩ = some (encA D[i]!)[c]! ∧ w.frozen? ⟨b, o + (i * 3 + c), none⟩ = false := fun c hc => by
    have h1 := h (i * 3 + c) (by rw [size_flatK]; omega)
    rw [get_flatK _ _ _ _ (by omega), show (i * 3 + c) / 3 = i by omega, show (i * 3 + c) % 3 = c by omega] at h1
    exact h1
  obtain ⟨a0, f0⟩ := hh 0 (by omega)
  obtain ⟨a1, f1⟩ := hh 1 (by omega)
  obtain ⟨a2, f2⟩ := hh 2 (by omega)
  exact ⟨⟨a0, a1, a2⟩, f0, f1, f2⟩
theorem holds_keep {w' : World} (h : HoldsK encA 3 w b o D) (hb : w'.heap[b]? = w.heap[b]?) : HoldsK encA 3 w' b o D := fun j hj =>
  ⟨(World.cell?_of_block hb).trans (h j hj).1, (World.frozen?_of_block hb).trans (h j hj).2⟩
theorem holds_put (h : HoldsK encA 3 w b o D) (i : Nat) (hi : i < D.size) (x : Int × Int × Int) : HoldsK encA 3 (w.setCells b (o + i * 3) (encA x)) b o (D.setIfInBounds i x) := fun j hj => by
  rw [size_flatK, Array.size_setIfInBounds] at hj
  have hj' : j < (flatK encA 3 D).size := by rw [size_flatK]; exact hj
  obtain ⟨h1, h2⟩ := h j hj'
  refine ⟨?_, by rw [World.frozen?_setCells]; exact h2⟩
  rw [get_flatK _ _ _ _ (by simpa using hj)]
  rw [get_flatK _ _ _ _ hj] at h1
  by_cases e : j / 3 = i
  · obtain ⟨c, rfl⟩ : ∃ c, j = i * 3 + c := ⟨j - i * 3, by omega⟩
    have hc : c < (encA x).length := by simp [encA]; omega
    have hin := World.cell?_setCells_in b (encA x) (o + i * 3) w (fun c' hc' => by
      have := (h (i * 3 + c') (by rw [size_flatK]; simp [encA] at hc'; omega)).1
      rw [Nat.add_assoc, this]; rfl) c hc
    rw [Nat.add_assoc] at hin
    rw [e, getElem!_set_same _ _ _ hi, hin]
    show some (encA x)[c] = some (encA x)[(i * 3 + c) % 3]!
    simp [encA] at hc
    rw [show (i * 3 + c) % 3 = c by omega, getElem!_pos (encA x) c (by simp [encA]; omega)]
  · rw [World.cell?_setCells_out _ _ _ _ _ (fun _ _ => by simp [encA]; omega), getElem!_set_other _ _ _ _ e]
    exact h1
end
theorem Touch.cells {b : Nat} {w : World} : ∀ (vs : List Value) (o : Nat) {w' : World}, Touch b w w' → Touch b w (w'.setCells b o vs)
  | [], _, _, h => h
  | v :: r, o, _, h => Touch.cells r (o + 1) ⟨h.os, h.tape, h.output, by simpa using h.size, fun k hk hne => (heap_setCell_other _ _ _ _ hne).trans (h.block k hk hne)⟩
theorem size_cells {b : Nat} : ∀ (vs : List Value) (o : Nat) (w : World), (w.setCells b o vs).heap.size = w.heap.size
  | [], _, _ => rfl
  | v :: r, o, w => (size_cells r (o + 1) _).trans (by simp)
theorem Touch.laid {b : Nat} {w w' wx : World} (h : Touch b w w') (hl : Laid w' wx) : Touch b w wx :=
  ⟨hl.below.os.trans h.os, hl.below.tape.trans h.tape, hl.below.output.trans h.output, Nat.le_trans h.size hl.size, fun k hk hne => (hl.block (Nat.lt_of_lt_of_le hk h.size)).trans (h.block k hk hne)⟩

/-- p arcs have been looked at; the row's first kk are those kept; from the last one looked at on the row is as it was. -/
structure CI (w : World) (b o : Nat) (d : Array (Int × Int × Int)) (wr : World) (D : Array (Int × Int × Int)) (kk p : Nat) : Prop where
  sz : D.size = d.size
  holds : HoldsK encA 3 wr b o D
  lt : b < wr.heap.size
  len : (comp d p).length = kk
  front : ∀ i, i < kk → (comp d p)[i]? = some D[i]!
  rest : ∀ i, p ≤ i + 1 → i < d.size → D[i]! = d[i]!
  touch : Touch b w wr
section
variable {w wr : World} {b o kk p : Nat} {d D : Array (Int × Int × Int)}
theorem CI.laid {wx : World} (h : CI w b o d wr D kk p) (hl : Laid wr wx) : CI w b o d wx D kk p :=
  ⟨h.sz, holds_keep h.holds (hl.block h.lt), Nat.lt_of_lt_of_le h.lt hl.size, h.len, h.front, h.rest, h.touch.laid hl⟩
theorem CI.skip (h : CI w b o d wr D kk p) (hp : 0 < p) (he : endsI d[p]! d[p - 1]! = 0) : CI w b o d wr D kk (p + 1) := by
  have e := comp_same hp he
  exact ⟨h.sz, h.holds, h.lt, by rw [e]; exact h.len, by rw [e]; exact h.front, fun i hi => h.rest i (by omega), h.touch⟩
theorem CI.add (h : CI w b o d wr d p p) (he : p = 0 ∨ endsI d[p]! d[p - 1]! ≠ 0) : CI w b o d wr d (p + 1) (p + 1) := by
  have e := comp_new he
  refine ⟨rfl, h.holds, h.lt, by rw [e, List.length_append, h.len]; rfl, fun i hi => ?_, fun _ _ _ => rfl, h.touch⟩
  rw [e]
  by_cases hlt : i < p
  · rw [List.getElem?_append_left (by rw [h.len]; exact hlt)]; exact h.front i hlt
  · obtain rfl : i = p := by omega
    rw [List.getElem?_append_right (by rw [h.len]; omega), h.len]; simp
theorem CI.put (h : CI w b o d wr D kk p) (hk : kk < p) (hp : p < d.size) (he : endsI d[p]! d[p - 1]! ≠ 0) : CI w b o d (wr.setCells b (o + kk * 3) (encA d[p]!)) (D.setIfInBounds kk d[p]!) (kk + 1) (p + 1) := by
  have e := comp_new (Or.inr he)
  have hkD : kk < D.size := by rw [h.sz]; omega
  refine ⟨by simp [h.sz], holds_put h.holds kk hkD _, by rw [size_cells]; exact h.lt, by rw [e, List.length_append, h.len]; rfl, fun i hi => ?_, fun i hi hi2 => ?_, h.touch.cells _ _⟩
  · rw [e]
    by_cases hlt : i < kk
    · rw [List.getElem?_append_left (by rw [h.len]; exact hlt), getElem!_set_other _ _ _ _ (by omega)]; exact h.front i hlt
    · obtain rfl : i = kk := by omega
      rw [List.getElem?_append_right (by rw [h.len]; omega), h.len, getElem!_set_same _ _ _ hkD]; simp
  · rw [getElem!_set_other _ _ _ _ (by omega)]; exact h.rest i (by omega) hi2
theorem CI.start (hH : HoldsK encA 3 w b o d) (hb : b < w.heap.size) : CI w b o d w d 1 1 :=
  CI.add ⟨rfl, hH, hb, rfl, fun i hi => by omega, fun _ _ _ => rfl, ⟨rfl, rfl, rfl, Nat.le_refl _, fun _ _ _ => rfl⟩⟩ (Or.inl rfl)
/-- what is kept lies in memory. -/
theorem CI.arcs (h : CI w b o d wr D kk p) (hk : kk ≤ d.size) (cap : Nat) : HasArcs wr (.slice (some ⟨b, o, none⟩) kk cap) (comp d p) := by
  refine ⟨_, _, by rw [h.len], fun j a hj => ?_⟩
  have hlt : j < kk := by have := (List.getElem?_eq_some_iff.1 hj).1; rw [h.len] at this; exact this
  obtain rfl : D[j]! = a := Option.some.inj ((h.front j hlt).symm.trans hj)
  obtain ⟨⟨c0, c1, c2⟩, _⟩ := holds_at h.holds j (by rw [h.sz]; omega)
  exact ⟨b, o, rfl, h.lt, c0, c1, c2⟩
end
theorem Try.elem22 : Try.prog.underlying 33 = some (.slice (Try.prog.elem 33)) := by kernel_rfl
theorem Try.size22 (w : World) : (sizeOf (Try.prog.elem 33)).run Try.prog w = .ok 3 w := by kernel_rfl
/-- 's[i:]', i below its length. -/
theorem slice_from (w : World) (b o n m cap i : Nat) (h : n = i + m) (hm : 0 < m) (hc : n ≤ cap) : (Instr.slice 33 (.slice (some ⟨b, o, none⟩) n cap) (some (.int .i64 (i : Int))) none none).run Try.prog w = .ok (.slice (some ⟨b, o + i * 3, none⟩) m (cap - i)) w := by
  rw [run_slice_l (ht := Try.elem22) (h0 := by omega) (h1 := by omega), Try.size22]
  have e2 : (i : Int).toNat = i := by omega
  simp only [Result.andThen_ok, sliced, e2]
  rw [if_neg (by omega)]
  simp [Addr.add]
  omega
/-- 's[:i]'. -/
theorem slice_to (w : World) (b o n cap i : Nat) (h : i ≤ cap) (hc : 0 < cap) : (Instr.slice 33 (.slice (some ⟨b, o, none⟩) n cap) none (some (.int .i64 (i : Int))) none).run Try.prog w = .ok (.slice (some ⟨b, o, none⟩) i cap) w := by
  rw [run_slice_h (ht := Try.elem22) (h0 := by omega) (h2 := by omega), Try.size22]
  have e2 : (i : Int).toNat = i := by omega
  simp only [Result.andThen_ok, sliced, e2]
  rw [if_neg (by omega)]
  simp [Addr.add]
/-- the cells of arcs, wiped. -/
def wiped (m : Nat) : List Value := (Builtin.zeroCells #[.int .i64 0, .int .i64 0, .int .i64 0] m).toList
theorem wiped_len (m : Nat) : (wiped m).length = m * 3 := by simp [wiped, Builtin.zeroCells]
theorem wiped_one (m : Nat) : ∀ v ∈ wiped m, v.oneCell' = true := fun v hv => by
  simp only [wiped, Builtin.zeroCells] at hv
  simp at hv
  obtain ⟨a, _, rfl⟩ := hv
  rcases (show a % 3 = 0 ∨ a % 3 = 1 ∨ a % 3 = 2 by omega) with h | h | h <;> rw [h] <;> rfl
/-- 'clear(s)' of arcs. -/
theorem clear_run (b o m c : Nat) (W : World) (hm : 0 < m) (hc : ∀ j, j < m * 3 → (W.cell? ⟨b, o + j, none⟩).isSome = true) (hf : ∀ j, j < m * 3 → W.frozen? ⟨b, o + j, none⟩ = false) :
    (Builtin.clear_ #[33] 0 #[.slice (some ⟨b, o, none⟩) m c]).run Try.prog W = .ok (.tuple #[]) (W.setCells b o (wiped m)) := by
  have hst := run_storeCells_cells (P := Try.prog) b o (wiped m) 0 W (by rw [wiped_len]; simpa using hc) (by rw [wiped_len]; simpa using hf) (wiped_one m)
  simp only [Nat.add_zero] at hst
  obtain ⟨m, rfl⟩ : ∃ k, m = k + 1 := ⟨m - 1, by omega⟩
  have hz := Try.zeroValue49
  unfold wiped at *
  simp [Builtin.clear_, run_underlying Try.underlying33, hz, Value.cells, hst]
end Go.Proofs.Ytkehpmbnbknpfaa

namespace Go.Proofs.Ytkehpmbnbknpfaa
open Go.RowKit Go.Extern Go.Sort Go.Shelf

/-- an arc's ends stand ahead of another's. -/
def lessA (a b : Int × Int × Int) : Prop := a.1 < b.1 ∨ a.1 = b.1 ∧ a.2.1 < b.2.1
instance (a b : Int × Int × Int) : Decidable (lessA a b) := by unfold lessA; infer_instance
/-- parallel arcs. -/
def sameA (a b : Int × Int × Int) : Prop := a.1 = b.1 ∧ a.2.1 = b.2.1
instance (a b : Int × Int × Int) : Decidable (sameA a b) := by unfold sameA; infer_instance
theorem endsI_zero (a b : Int × Int × Int) : endsI a b = 0 ↔ sameA a b := by
  unfold endsI orI cmpI sameA
  by_cases h0 : a.1 < b.1 <;> by_cases h1 : b.1 < a.1 <;> by_cases h2 : a.2.1 < b.2.1 <;> by_cases h3 : b.2.1 < a.2.1 <;> simp [h0, h1, h2, h3] <;> omega
theorem endsI_neg (a b : Int × Int × Int) : endsI a b < 0 ↔ lessA a b := by
  unfold endsI orI cmpI lessA
  by_cases h0 : a.1 < b.1 <;> by_cases h1 : b.1 < a.1 <;> by_cases h2 : a.2.1 < b.2.1 <;> by_cases h3 : b.2.1 < a.2.1 <;> simp [h0, h1, h2, h3] <;> omega
theorem sameA_less {a b c : Int × Int × Int} (h : sameA a b) (h2 : lessA b c) : lessA a c := by unfold sameA lessA at *; omega
theorem less_trans {a b c : Int × Int × Int} (h : lessA a b) (h2 : lessA b c) : lessA a c := by unfold lessA at *; omega
theorem less_not_same {a b : Int × Int × Int} (h : lessA a b) : ¬ sameA a b ∧ ¬ sameA b a ∧ ¬ lessA b a := by unfold lessA sameA at *; omega
theorem less_total {a b : Int × Int × Int} (h : ¬ lessA a b) (h2 : ¬ sameA a b) : lessA b a := by unfold lessA sameA at *; omega
theorem sameA.symm {a b : Int × Int × Int} (h : sameA a b) : sameA b a := ⟨h.1.symm, h.2.symm⟩
theorem sameA.trans {a b c : Int × Int × Int} (h : sameA a b) (h2 : sameA b c) : sameA a c := ⟨h.1.trans h2.1, h.2.trans h2.2⟩
theorem arc_ext {a b : Int × Int × Int} (h : sameA a b) (hw : a.2.2 = b.2.2) : a = b := by
  obtain ⟨a0, a1, a2⟩ := a
  obtain ⟨b0, b1, b2⟩ := b
  obtain ⟨h1, h2⟩ := h
  simp only at h1 h2 hw
  rw [h1, h2, hw]

/-- a list that rises. -/
def RiseA (l : List (Int × Int × Int)) : Prop := l.Pairwise lessA
theorem rise_same {l : List (Int × Int × Int)} (h : RiseA l) {a b : Int × Int × Int} (ha : a ∈ l) (hb : b ∈ l) (hs : sameA a b) : a = b := by
  induction l with
  | nil => cases ha
  | cons x r ih =>
    obtain ⟨h1, h2⟩ := List.pairwise_cons.1 h
    rcases List.mem_cons.1 ha with rfl | ha' <;> rcases List.mem_cons.1 hb with rfl | hb'
    · rfl
    · exact absurd hs (less_not_same (h1 b hb')).1
    · exact absurd hs.symm (less_not_same (h1 a ha')).1
    · exact ih h2 ha' hb'
theorem rise_ext : ∀ {l r : List (Int × Int × Int)}, RiseA l → RiseA r → (∀ x, x ∈ l ↔ x ∈ r) → l = r
  | [], [], _, _, _ => rfl
  | [], y :: r, _, _, h => absurd ((h y).2 (by simp)) (by simp)
  | x :: l, [], _, _, h => absurd ((h x).1 (by simp)) (by simp)
  | x :: l, y :: r, hl, hr, h => by
    obtain ⟨a1, a2⟩ := List.pairwise_cons.1 hl
    obtain ⟨b1, b2⟩ := List.pairwise_cons.1 hr
    have e : x = y := by
      rcases List.mem_cons.1 ((h x).1 (by simp)) with e | hx
      · exact e
      · rcases List.mem_cons.1 ((h y).2 (by simp)) with e | hy
        · exact e.symm
        · exact absurd (a1 y hy) (less_not_same (b1 x hx)).2.2
    subst e
    refine congrArg _ (rise_ext a2 b2 fun z => ⟨fun hz => ?_, fun hz => ?_⟩)
    · rcases List.mem_cons.1 ((h z).1 (List.mem_cons_of_mem _ hz)) with e | hz'
      · subst e; exact absurd ⟨rfl, rfl⟩ (less_not_same (a1 z hz)).1
      · exact hz'
    · rcases List.mem_cons.1 ((h z).2 (List.mem_cons_of_mem _ hz)) with e | hz'
      · subst e; exact absurd ⟨rfl, rfl⟩ (less_not_same (b1 z hz)).1
      · exact hz'

/-- the normal list of some arcs. -/
structure NormOf (P : Int × Int × Int → Prop) (l : List (Int × Int × Int)) : Prop where
  rise : RiseA l
  of : ∀ x ∈ l, P x
  all : ∀ y, P y → ∃ b ∈ l, sameA b y ∧ b.2.2 ≤ y.2.2
theorem NormOf.sub {P : Int × Int × Int → Prop} {l r : List (Int × Int × Int)} (hl : NormOf P l) (hr : NormOf P r) {x : Int × Int × Int} (hx : x ∈ l) : x ∈ r := by
  obtain ⟨b, hb, h1, h2⟩ := hr.all x (hl.of x hx)
  obtain ⟨c, hc, h3, h4⟩ := hl.all b (hr.of b hb)
  have e := rise_same hl.rise hc hx (h3.trans h1)
  subst e
  have : b = c := arc_ext h1 (by omega)
  rw [← this]
  exact hb
theorem NormOf.unique {P : Int × Int × Int → Prop} {l r : List (Int × Int × Int)} (hl : NormOf P l) (hr : NormOf P r) : l = r :=
  rise_ext hl.rise hr.rise fun _ => ⟨hl.sub hr, hr.sub hl⟩
theorem NormOf.congr {P Q : Int × Int × Int → Prop} {l : List (Int × Int × Int)} (h : NormOf P l) (e : ∀ x, P x ↔ Q x) : NormOf Q l :=
  ⟨h.rise, fun x hx => (e x).1 (h.of x hx), fun y hy => h.all y ((e y).2 hy)⟩

/-- an arc put into a normal list. -/
def putA : List (Int × Int × Int) → Int × Int × Int → List (Int × Int × Int)
  | [], a => [a]
  | b :: r, a => if lessA b a then b :: putA r a else if sameA b a then (a.1, a.2.1, min a.2.2 b.2.2) :: r else a :: b :: r
theorem put_low : ∀ {l : List (Int × Int × Int)} {a x : Int × Int × Int}, (∀ y ∈ l, lessA x y) → lessA x a → ∀ y ∈ putA l a, lessA x y
  | [], a, x, _, ha, y, hy => by simp [putA] at hy; subst hy; exact ha
  | b :: r, a, x, h, ha, y, hy => by
    unfold putA at hy
    split at hy
    · rcases List.mem_cons.1 hy with rfl | hy
      · exact h y (by simp)
      · exact put_low (fun z hz => h z (List.mem_cons_of_mem _ hz)) ha y hy
    · split at hy
      · rcases List.mem_cons.1 hy with rfl | hy
        · unfold lessA at *; exact ha
        · exact h y (List.mem_cons_of_mem _ hy)
      · rcases List.mem_cons.1 hy with rfl | hy
        · exact ha
        · exact h y hy
theorem put_rise : ∀ {l : List (Int × Int × Int)} {a : Int × Int × Int}, RiseA l → RiseA (putA l a)
  | [], a, _ => List.pairwise_singleton _ _
  | b :: r, a, h => by
    obtain ⟨h1, h2⟩ := List.pairwise_cons.1 h
    unfold putA
    split
    · rename_i hb
      exact List.pairwise_cons.2 ⟨put_low h1 hb, put_rise h2⟩
    · split
      · rename_i hs
        refine List.pairwise_cons.2 ⟨fun y hy => ?_, h2⟩
        have := sameA_less hs.symm (h1 y hy)
        unfold lessA at *; exact this
      · rename_i hb hs
        have hab := less_total hb hs
        refine List.pairwise_cons.2 ⟨fun y hy => ?_, h⟩
        rcases List.mem_cons.1 hy with rfl | hy
        · exact hab
        · exact less_trans hab (h1 y hy)
theorem put_of : ∀ {l : List (Int × Int × Int)} {a x : Int × Int × Int}, x ∈ putA l a → x ∈ l ∨ x = a
  | [], a, x, h => by simp [putA] at h; exact Or.inr h
  | b :: r, a, x, h => by
    unfold putA at h
    split at h
    · rcases List.mem_cons.1 h with rfl | h
      · exact Or.inl (by simp)
      · rcases put_of h with h | h
        · exact Or.inl (List.mem_cons_of_mem _ h)
        · exact Or.inr h
    · split at h
      · rename_i hs
        rcases List.mem_cons.1 h with rfl | h
        · rcases Int.le_total a.2.2 b.2.2 with hw | hw
          · exact Or.inr (arc_ext ⟨rfl, rfl⟩ (by show min _ _ = _; omega))
          · refine Or.inl ?_
            rw [show (a.1, a.2.1, min a.2.2 b.2.2) = b from arc_ext ⟨hs.1.symm, hs.2.symm⟩ (by show min _ _ = _; omega)]
            simp
        · exact Or.inl (List.mem_cons_of_mem _ h)
      · rcases List.mem_cons.1 h with h | h
        · exact Or.inr h
        · exact Or.inl h
theorem put_new : ∀ (l : List (Int × Int × Int)) (a : Int × Int × Int), ∃ b ∈ putA l a, sameA b a ∧ b.2.2 ≤ a.2.2
  | [], a => ⟨a, by simp [putA], ⟨rfl, rfl⟩, Int.le_refl _⟩
  | b :: r, a => by
    unfold putA
    split
    · obtain ⟨c, h1, h2⟩ := put_new r a
      exact ⟨c, List.mem_cons_of_mem _ h1, h2⟩
    · split
      · exact ⟨_, List.mem_cons_self .., ⟨rfl, rfl⟩, by show min _ _ ≤ _; omega⟩
      · exact ⟨a, by simp, ⟨rfl, rfl⟩, Int.le_refl _⟩
theorem put_old : ∀ (l : List (Int × Int × Int)) (a x : Int × Int × Int), x ∈ l → ∃ b ∈ putA l a, sameA b x ∧ b.2.2 ≤ x.2.2
  | b :: r, a, x, hx => by
    unfold putA
    split
    · rcases List.mem_cons.1 hx with rfl | hx
      · exact ⟨x, by simp, ⟨rfl, rfl⟩, Int.le_refl _⟩
      · obtain ⟨c, h1, h2⟩ := put_old r a x hx
        exact ⟨c, List.mem_cons_of_mem _ h1, h2⟩
    · split
      · rename_i hs
        rcases List.mem_cons.1 hx with rfl | hx
        · exact ⟨_, List.mem_cons_self .., hs.symm, by show min _ _ ≤ _; omega⟩
        · exact ⟨x, List.mem_cons_of_mem _ hx, ⟨rfl, rfl⟩, Int.le_refl _⟩
      · exact ⟨x, List.mem_cons_of_mem _ hx, ⟨rfl, rfl⟩, Int.le_refl _⟩
theorem NormOf.put {P : Int × Int × Int → Prop} {l : List (Int × Int × Int)} (h : NormOf P l) (a : Int × Int × Int) : NormOf (fun x => P x ∨ x = a) (putA l a) := by
  refine ⟨put_rise h.rise, fun x hx => (put_of hx).imp (h.of x) id, fun y hy => ?_⟩
  rcases hy with hy | rfl
  · obtain ⟨b, hb, h1, h2⟩ := h.all y hy
    obtain ⟨c, hc, h3, h4⟩ := put_old l a b hb
    exact ⟨c, hc, h3.trans h1, by omega⟩
  · exact put_new l y
/-- the document's normal list. -/
def normA (xs : List (Int × Int × Int)) : List (Int × Int × Int) := (kept xs).foldl putA []
theorem norm_fold : ∀ (r : List (Int × Int × Int)) {P : Int × Int × Int → Prop} {l : List (Int × Int × Int)}, NormOf P l → NormOf (fun x => P x ∨ x ∈ r) (r.foldl putA l)
  | [], _, _, h => h.congr fun x => by simp
  | a :: r, _, _, h => (norm_fold r (h.put a)).congr fun x => by simp only [List.mem_cons]; exact or_assoc
theorem normA_norm (xs : List (Int × Int × Int)) : NormOf (· ∈ kept xs) (normA xs) :=
  (norm_fold (kept xs) (P := fun _ => False) (l := []) ⟨List.Pairwise.nil, fun x h => (by cases h), fun _ h => False.elim h⟩).congr fun x => by simp

/-- a sorted row, compacted, is normal. -/
theorem comp_norm {d : Array (Int × Int × Int)} {n : Nat} (hs : ∀ i j, i < j → j < n → ltOf arcI d[j]! d[i]! = false) : ∀ k, k ≤ n → NormOf (fun x => ∃ j, j < k ∧ x = d[j]!) (comp d k)
  | 0, _ => ⟨List.Pairwise.nil, fun x h => by simp [comp] at h, fun y ⟨j, h, _⟩ => by omega⟩
  | k + 1, hk => by
    have ih := comp_norm hs k (by omega)
    by_cases h : k = 0 ∨ endsI d[k]! d[k - 1]! ≠ 0
    · rw [comp_new h]
      have hl : ∀ j, j < k → lessA d[j]! d[k]! := fun j hj => by
        have h1 := h.resolve_left (by omega)
        rw [Ne, endsI_zero] at h1
        have a1 := hs (k - 1) k (by omega) (by omega)
        have a2 : j = k - 1 ∨ ltOf arcI d[k - 1]! d[j]! = false := by
          by_cases e : j = k - 1
          · exact Or.inl e
          · exact Or.inr (hs j (k - 1) (by omega) (by omega))
        rw [ltA, decide_eq_false_iff_not] at a1
        rcases a2 with rfl | a2
        · unfold lessA sameA at *; omega
        · rw [ltA, decide_eq_false_iff_not] at a2
          unfold lessA sameA at *
          omega
      refine ⟨List.pairwise_append.2 ⟨ih.rise, List.pairwise_singleton _ _, fun a ha c hc => ?_⟩, fun x hx => ?_, fun y ⟨j, hj, e⟩ => ?_⟩
      · obtain ⟨j, hj, rfl⟩ := ih.of a ha
        simp at hc
        rw [hc]
        exact hl j hj
      · rcases List.mem_append.1 hx with hx | hx
        · obtain ⟨j, hj, e⟩ := ih.of x hx
          exact ⟨j, by omega, e⟩
        · simp at hx
          exact ⟨k, by omega, hx⟩
      · by_cases hj' : j < k
        · obtain ⟨b, hb, hh⟩ := ih.all y ⟨j, hj', e⟩
          exact ⟨b, List.mem_append_left _ hb, hh⟩
        · obtain rfl : j = k := by omega
          exact ⟨d[j]!, by simp, by rw [e]; exact ⟨rfl, rfl⟩, by rw [e]; exact Int.le_refl _⟩
    · have hk0 : 0 < k := by omega
      have hz : endsI d[k]! d[k - 1]! = 0 := by
        by_cases hz : endsI d[k]! d[k - 1]! = 0
        · exact hz
        · exact absurd (Or.inr hz) h
      rw [comp_same hk0 hz]
      rw [endsI_zero] at hz
      refine ⟨ih.rise, fun x hx => ?_, fun y ⟨j, hj, e⟩ => ?_⟩
      · obtain ⟨j, hj, e⟩ := ih.of x hx
        exact ⟨j, by omega, e⟩
      · by_cases hj' : j < k
        · exact ih.all y ⟨j, hj', e⟩
        · obtain rfl : j = k := by omega
          obtain ⟨b, hb, h1, h2⟩ := ih.all d[j - 1]! ⟨j - 1, by omega, rfl⟩
          have a1 := hs (j - 1) j (by omega) (by omega)
          rw [ltA, decide_eq_false_iff_not] at a1
          rw [e]
          exact ⟨b, hb, h1.trans hz.symm, by unfold sameA at *; omega⟩
theorem sortedA_size (xs : List (Int × Int × Int)) : (sortedA xs).size = (kept xs).length := by
  have hp := (pdq_sorts (ltOf arcI) swoA (kept xs).toArray 0 (kept xs).toArray.size (Lib.bitLen (kept xs).toArray.size) true true (Nat.zero_le _) (Nat.le_refl _) (Or.inl rfl)).1
  have := hp.1
  simpa [sortedA] using this
/-- what is sorted and compacted is what putting makes. -/
theorem comp_sorted (xs : List (Int × Int × Int)) : comp (sortedA xs) (kept xs).length = normA xs := by
  have hps := pdq_sorts (ltOf arcI) swoA (kept xs).toArray 0 (kept xs).toArray.size (Lib.bitLen (kept xs).toArray.size) true true (Nat.zero_le _) (Nat.le_refl _) (Or.inl rfl)
  have hsz := sortedA_size xs
  have hm : ∀ x, (∃ j, j < (kept xs).length ∧ x = (sortedA xs)[j]!) ↔ x ∈ kept xs := fun x => by
    have hp := hps.1.2.2
    change ((sortedA xs).extract 0 _).toList.Perm _ at hp
    rw [show (kept xs).toArray.size = (sortedA xs).size by rw [hsz]; simp] at hp
    have hx : x ∈ (sortedA xs).toList ↔ x ∈ kept xs := by
      have := hp.mem_iff (a := x)
      rw [hsz] at this
      have e : List.take (kept xs).length (sortedA xs).toList = (sortedA xs).toList := List.take_of_length_le (by rw [Array.length_toList, hsz]; exact Nat.le_refl _)
      simp [e] at this
      simpa using this
    rw [← hx]
    constructor
    · rintro ⟨j, hj, rfl⟩
      rw [← hsz] at hj
      rw [getElem!_pos _ j hj]
      simp
    · intro h
      obtain ⟨j, hj, e⟩ := List.getElem_of_mem h
      simp at hj
      refine ⟨j, by omega, ?_⟩
      rw [getElem!_pos _ j hj]
      simpa using e.symm
  refine NormOf.unique ((comp_norm (n := (kept xs).length) (fun i j h1 h2 => ?_) _ (Nat.le_refl _)).congr hm) (normA_norm xs)
  exact hps.2 i j (Nat.zero_le _) h1 (by simpa using h2)
/-- a list is its own normal list just where it rises and has no loop. -/
theorem norm_self (xs : List (Int × Int × Int)) : normA xs = xs ↔ (∀ a ∈ xs, a.1 ≠ a.2.1) ∧ RiseA xs := by
  constructor
  · intro e
    have h := normA_norm xs
    rw [e] at h
    refine ⟨fun a ha => ?_, h.rise⟩
    have := h.of a ha
    simp [kept] at this
    exact this.2
  · rintro ⟨h1, h2⟩
    have hk : kept xs = xs := by
      unfold kept
      rw [List.filter_eq_self]
      intro a ha
      simp [h1 a ha]
    have h := normA_norm xs
    rw [hk] at h
    exact h.unique ⟨h2, fun x hx => hx, fun y hy => ⟨y, hy, ⟨rfl, rfl⟩, Int.le_refl _⟩⟩
end Go.Proofs.Ytkehpmbnbknpfaa

namespace Go.Proofs.Ytkehpmbnbknpfaa
open Go.RowKit Go.Extern Go.Sort Go.Shelf

attribute [local go_sem] Oper.semAt_some

theorem keeps_two {W : World} {b : Nat} {c : Array Value} {t : TypeId} (h : W.heap[b]? = some (.cells c t)) (ht : t ≠ 136) (u v : Value) : Keeps W ((W.setCell ⟨b, 0, none⟩ u).setCell ⟨b, 1, none⟩ v) := fun d x hd => by
  have hne : d ≠ b := fun e => by rw [e, h] at hd; cases hd; exact ht rfl
  rw [heap_setCell_other _ _ _ _ hne, heap_setCell_other _ _ _ _ hne]
  exact hd
/-- an arc turned about. -/
def turn (a : Int × Int × Int) : Int × Int × Int := (a.2.1, a.1, a.2.2)
/-- what holds at each round. -/
structure RevI (w : World) (R : Nat) (N : Int) (ao : Option Addr) (cap : Nat) (xs : List (Int × Int × Int)) (k : Nat) (wr : World) : Prop where
  done : ∀ j a, j < k → xs[j]? = some a → wr.cell? ⟨R, j * 3, none⟩ = some (.int .i64 a.2.1) ∧ wr.cell? ⟨R, j * 3 + 1, none⟩ = some (.int .i64 a.1) ∧ wr.cell? ⟨R, j * 3 + 2, none⟩ = some (.int .i64 a.2.2)
  room : ∀ o, o < xs.length * 3 → ∃ v, wr.cell? ⟨R, o, none⟩ = some v
  free : ∀ o, wr.frozen? ⟨R, o, none⟩ = false
  lt : R < wr.heap.size
  box : wr.heap[w.heap.size]? = some (.cells #[.int .i64 N, .slice ao xs.length cap] 35)
  res : wr.heap[w.heap.size + 1]? = some (.cells #[.int .i64 0, .slice none 0 0] 35)
  below : Below w.heap.size w wr
theorem RevI.keep {w : World} {R : Nat} {N : Int} {ao : Option Addr} {cap : Nat} {xs : List (Int × Int × Int)} {k : Nat} {wr wn : World} (h : RevI w R N ao cap xs k wr) (hb : Below wr.heap.size wr wn) : RevI w R N ao cap xs k wn := by
  have hc : ∀ o, wn.cell? ⟨R, o, none⟩ = wr.cell? ⟨R, o, none⟩ := fun o => hb.cell (p := ⟨R, o, none⟩) h.lt
  refine ⟨fun j a hj ha => ?_, fun o ho => ?_, fun o => ?_, Nat.lt_of_lt_of_le h.lt hb.size, (hb.block _ (lt_of_get h.box)).trans h.box, (hb.block _ (lt_of_get h.res)).trans h.res, h.below.trans (hb.mono h.below.size)⟩
  · rw [hc, hc, hc]; exact h.done j a hj ha
  · rw [hc]; exact h.room o ho
  · have := h.free o
    simp only [World.frozen?, hb.block _ h.lt] at *
    exact this
theorem RevI.next {w : World} {R : Nat} {N : Int} {ao : Option Addr} {cap : Nat} {xs : List (Int × Int × Int)} {k : Nat} {wr : World} (h : RevI w R N ao cap xs k wr) {a : Int × Int × Int} (ha : xs[k]? = some a) (hR : w.heap.size + 1 < R) :
    RevI w R N ao cap xs (k + 1) (((wr.setCell ⟨R, k * 3, none⟩ (.int .i64 a.2.1)).setCell ⟨R, k * 3 + 1, none⟩ (.int .i64 a.1)).setCell ⟨R, k * 3 + 2, none⟩ (.int .i64 a.2.2)) := by
  have hlt := (List.getElem?_eq_some_iff.1 ha).1
  obtain ⟨v0, h0⟩ := h.room (k * 3) (by omega)
  obtain ⟨v1, h1⟩ := h.room (k * 3 + 1) (by omega)
  obtain ⟨v2, h2⟩ := h.room (k * 3 + 2) (by omega)
  have hne : ∀ x y : Nat, x ≠ y → (⟨R, x, none⟩ : Addr) ≠ ⟨R, y, none⟩ := fun x y hxy e => hxy (congrArg Addr.off e)
  have hoth : ∀ o, o ≠ k * 3 → o ≠ k * 3 + 1 → o ≠ k * 3 + 2 → (((wr.setCell ⟨R, k * 3, none⟩ (.int .i64 a.2.1)).setCell ⟨R, k * 3 + 1, none⟩ (.int .i64 a.1)).setCell ⟨R, k * 3 + 2, none⟩ (.int .i64 a.2.2)).cell? ⟨R, o, none⟩ = wr.cell? ⟨R, o, none⟩ := fun o n0 n1 n2 => by
    rw [World.cell?_setCell_other _ _ _ _ (hne _ _ (Ne.symm n2)), World.cell?_setCell_other _ _ _ _ (hne _ _ (Ne.symm n1)), World.cell?_setCell_other _ _ _ _ (hne _ _ (Ne.symm n0))]
  have g1 : (wr.setCell ⟨R, k * 3, none⟩ (.int .i64 a.2.1)).cell? ⟨R, k * 3 + 1, none⟩ = some v1 := (World.cell?_setCell_other _ _ _ _ (hne _ _ (by omega))).trans h1
  have g2 : ((wr.setCell ⟨R, k * 3, none⟩ (.int .i64 a.2.1)).setCell ⟨R, k * 3 + 1, none⟩ (.int .i64 a.1)).cell? ⟨R, k * 3 + 2, none⟩ = some v2 := (World.cell?_setCell_other _ _ _ _ (hne _ _ (by omega))).trans ((World.cell?_setCell_other _ _ _ _ (hne _ _ (by omega))).trans h2)
  have c0 : (((wr.setCell ⟨R, k * 3, none⟩ (.int .i64 a.2.1)).setCell ⟨R, k * 3 + 1, none⟩ (.int .i64 a.1)).setCell ⟨R, k * 3 + 2, none⟩ (.int .i64 a.2.2)).cell? ⟨R, k * 3, none⟩ = some (.int .i64 a.2.1) := by
    rw [World.cell?_setCell_other _ _ _ _ (hne _ _ (by omega)), World.cell?_setCell_other _ _ _ _ (hne _ _ (by omega)), World.cell?_setCell_same _ _ _ h0]
  have c1 : (((wr.setCell ⟨R, k * 3, none⟩ (.int .i64 a.2.1)).setCell ⟨R, k * 3 + 1, none⟩ (.int .i64 a.1)).setCell ⟨R, k * 3 + 2, none⟩ (.int .i64 a.2.2)).cell? ⟨R, k * 3 + 1, none⟩ = some (.int .i64 a.1) := by
    rw [World.cell?_setCell_other _ _ _ _ (hne _ _ (by omega)), World.cell?_setCell_same _ _ _ g1]
  have c2 : (((wr.setCell ⟨R, k * 3, none⟩ (.int .i64 a.2.1)).setCell ⟨R, k * 3 + 1, none⟩ (.int .i64 a.1)).setCell ⟨R, k * 3 + 2, none⟩ (.int .i64 a.2.2)).cell? ⟨R, k * 3 + 2, none⟩ = some (.int .i64 a.2.2) := World.cell?_setCell_same _ _ _ g2
  refine ⟨fun j b hj hb => ?_, fun o ho => ?_, fun o => ?_, by simp; exact h.lt, ?_, ?_, ?_⟩
  · by_cases hjk : j = k
    · subst hjk
      obtain rfl : a = b := Option.some.inj (ha.symm.trans hb)
      exact ⟨c0, c1, c2⟩
    · rw [hoth _ (by omega) (by omega) (by omega), hoth _ (by omega) (by omega) (by omega), hoth _ (by omega) (by omega) (by omega)]
      exact h.done j b (by omega) hb
  · by_cases e0 : o = k * 3
    · subst e0; exact ⟨_, c0⟩
    · by_cases e1 : o = k * 3 + 1
      · subst e1; exact ⟨_, c1⟩
      · by_cases e2 : o = k * 3 + 2
        · subst e2; exact ⟨_, c2⟩
        · rw [hoth o e0 e1 e2]; exact h.room o ho
  · simp; exact h.free o
  · rw [heap_setCell_other _ _ _ _ (by show w.heap.size ≠ R; omega), heap_setCell_other _ _ _ _ (by show w.heap.size ≠ R; omega), heap_setCell_other _ _ _ _ (by show w.heap.size ≠ R; omega)]; exact h.box
  · rw [heap_setCell_other _ _ _ _ (by show w.heap.size + 1 ≠ R; omega), heap_setCell_other _ _ _ _ (by show w.heap.size + 1 ≠ R; omega), heap_setCell_other _ _ _ _ (by show w.heap.size + 1 ≠ R; omega)]; exact h.res
  · exact ((h.below.setCell (p := ⟨R, k * 3, none⟩) (by show w.heap.size ≤ R; omega) _).setCell (p := ⟨R, k * 3 + 1, none⟩) (by show w.heap.size ≤ R; omega) _).setCell (p := ⟨R, k * 3 + 2, none⟩) (by show w.heap.size ≤ R; omega) _

end Go.Proofs.Ytkehpmbnbknpfaa

namespace Go.Proofs.Ytkehpmbnbknpfaa
open Go.RowKit Go.Extern Go.Sort Go.Shelf

attribute [local go_sem] Oper.semAt_some

theorem CI.done {w wr : World} {b o kk p : Nat} {d D : Array (Int × Int × Int)} (h : CI w b o d wr D kk p) (hk : kk ≤ d.size) (cap : Nat) (vs : List Value) : HasArcs (wr.setCells b (o + kk * 3) vs) (.slice (some ⟨b, o, none⟩) kk cap) (comp d p) ∧ Touch b w (wr.setCells b (o + kk * 3) vs) := by
  refine ⟨⟨_, _, by rw [h.len], fun j a hj => ?_⟩, h.touch.cells _ _⟩
  have hlt : j < kk := by have := (List.getElem?_eq_some_iff.1 hj).1; rw [h.len] at this; exact this
  obtain rfl : D[j]! = a := Option.some.inj ((h.front j hlt).symm.trans hj)
  obtain ⟨⟨c0, c1, c2⟩, _⟩ := holds_at h.holds j (by rw [h.sz]; omega)
  have keep : ∀ c, c < kk * 3 → (wr.setCells b (o + kk * 3) vs).cell? ⟨b, o + c, none⟩ = wr.cell? ⟨b, o + c, none⟩ := fun c hc => World.cell?_setCells_out _ _ _ _ _ (fun _ _ => Or.inl (by simp; omega))
  exact ⟨b, o, rfl, by rw [size_cells]; exact h.lt, (keep (j * 3) (by omega)).trans c0, (keep (j * 3 + 1) (by omega)).trans c1, (keep (j * 3 + 2) (by omega)).trans c2⟩

end Go.Proofs.Ytkehpmbnbknpfaa

namespace Go.Proofs.Ytkehpmbnbknpfaa
open Go.RowKit Go.Extern Go.Sort Go.Shelf

theorem normA_len (xs : List (Int × Int × Int)) : (normA xs).length ≤ xs.length := by
  rw [← comp_sorted]
  exact Nat.le_trans (comp_len _ _) (kept_le xs)

end Go.Proofs.Ytkehpmbnbknpfaa

namespace Go.Proofs.Ytkehpmbnbknpfaa
open Go.RowKit Go.Extern

theorem firstBad_none (N : Int) : ∀ (xs : List (Int × Int × Int)) (i : Nat), firstBad N xs i = none ↔ ∀ a ∈ xs, arcBad N a = 0
  | [], i => by simp [firstBad]
  | a :: r, i => by
    unfold firstBad
    by_cases h : arcBad N a = 0
    · rw [if_pos h, firstBad_none N r (i + 1)]
      simp [h]
    · rw [if_neg h]
      simp [h]
theorem good_iff (N : Int) (xs : List (Int × Int × Int)) : graphErr N xs = (0, []) ↔ (¬ (N < 0 ∨ 65536 < N ∨ 262144 < xs.length)) ∧ ∀ a ∈ xs, arcBad N a = 0 := by
  unfold graphErr
  by_cases h : N < 0 ∨ 65536 < N ∨ 262144 < xs.length
  · rw [if_pos h]; simp [h]
  · rw [if_neg h]
    cases hf : firstBad N xs 0 with
    | none => exact ⟨fun _ => ⟨h, (firstBad_none N xs 0).1 hf⟩, fun _ => rfl⟩
    | some q =>
      obtain ⟨i, c⟩ := q
      simp only [Prod.mk.injEq, List.cons_ne_nil, and_false, false_iff]
      rintro ⟨_, h2⟩
      rw [(firstBad_none N xs 0).2 h2] at hf
      cases hf
theorem kept_mem {xs : List (Int × Int × Int)} {a : Int × Int × Int} : a ∈ kept xs ↔ a ∈ xs ∧ a.1 ≠ a.2.1 := by
  unfold kept
  simp [List.mem_filter]
theorem norm_sub {xs : List (Int × Int × Int)} {a : Int × Int × Int} (h : a ∈ normA xs) : a ∈ xs ∧ a.1 ≠ a.2.1 := kept_mem.1 ((normA_norm xs).of a h)
theorem good_norm {N : Int} {xs : List (Int × Int × Int)} (h : graphErr N xs = (0, [])) : graphErr N (normA xs) = (0, []) := by
  rw [good_iff] at *
  have := normA_len xs
  exact ⟨by omega, fun a ha => h.2 a (norm_sub ha).1⟩
theorem turn_turn (xs : List (Int × Int × Int)) : (xs.map turn).map turn = xs := by
  rw [List.map_map]
  have : turn ∘ turn = id := by funext a; rfl
  rw [this, List.map_id]
theorem good_turn {N : Int} {xs : List (Int × Int × Int)} (h : graphErr N xs = (0, [])) : graphErr N (xs.map turn) = (0, []) := by
  rw [good_iff] at *
  rw [List.length_map]
  refine ⟨h.1, fun a ha => ?_⟩
  obtain ⟨b, hb, rfl⟩ := List.mem_map.1 ha
  have := h.2 b hb
  unfold arcBad turn at *
  simp only at *
  split at this
  · cases this
  · split at this
    · cases this
    · rw [if_neg (by omega), if_neg (by omega)]
theorem norm_twice (xs : List (Int × Int × Int)) : normA (normA xs) = normA xs := (norm_self _).2 ⟨fun _ ha => (norm_sub ha).2, (normA_norm xs).rise⟩
theorem mem_turn {l : List (Int × Int × Int)} {a : Int × Int × Int} : a ∈ l.map turn ↔ turn a ∈ l := by
  rw [List.mem_map]
  constructor
  · rintro ⟨b, hb, rfl⟩; exact hb
  · intro h; exact ⟨turn a, h, rfl⟩
/-- the normal graph of what is turned is that of the turned normal graph. -/
theorem norm_turn (xs : List (Int × Int × Int)) : normA (xs.map turn) = normA ((normA xs).map turn) := by
  refine NormOf.unique (normA_norm (xs.map turn)) ?_
  have h := normA_norm ((normA xs).map turn)
  refine ⟨h.rise, fun x hx => ?_, fun y hy => ?_⟩
  · obtain ⟨h1, h2⟩ := kept_mem.1 (h.of x hx)
    exact kept_mem.2 ⟨mem_turn.2 (norm_sub (mem_turn.1 h1)).1, h2⟩
  · obtain ⟨h1, h2⟩ := kept_mem.1 hy
    obtain ⟨b, hb, hs, hw⟩ := (normA_norm xs).all (turn y) (kept_mem.2 ⟨mem_turn.1 h1, Ne.symm h2⟩)
    obtain ⟨c, hc, hs2, hw2⟩ := h.all (turn b) (kept_mem.2 ⟨List.mem_map.2 ⟨b, hb, rfl⟩, Ne.symm (norm_sub hb).2⟩)
    refine ⟨c, hc, ?_, Int.le_trans hw2 hw⟩
    unfold sameA turn at *
    simp only at *
    exact ⟨hs2.1.trans hs.2, hs2.2.trans hs.1⟩
theorem norm_rise (xs : List (Int × Int × Int)) {i : Nat} {a b : Int × Int × Int} (ha : (normA xs)[i]? = some a) (hb : (normA xs)[i + 1]? = some b) : lessA a b := by
  have h := (normA_norm xs).rise
  unfold RiseA at h
  rw [List.pairwise_iff_getElem] at h
  obtain ⟨h1, e1⟩ := List.getElem?_eq_some_iff.1 ha
  obtain ⟨h2, e2⟩ := List.getElem?_eq_some_iff.1 hb
  have := h i (i + 1) h1 h2 (Nat.lt_succ_self _)
  rwa [e1, e2] at this

theorem told_iface {w : World} {e : Int × List (Int × Int)} {v : Value} (h : IsTold w e v) (he : e ≠ (0, [])) : ∃ T x, v = .iface T x := by
  rcases h with ⟨h1, _⟩ | ⟨_, h2⟩
  · exact absurd h1 he
  · obtain ⟨c, ps⟩ := e
    cases ps with
    | nil => exact ⟨_, _, h2⟩
    | cons p r => obtain ⟨b, u, e, _⟩ := h2; exact ⟨_, _, e⟩
theorem told_ok {w : World} {v : Value} (h : IsTold w (0, []) v) : v = .nilIface := by
  rcases h with ⟨_, h2⟩ | ⟨h1, _⟩
  · exact h2
  · exact absurd rfl h1

section
variable {N : Int} {ao : Option Addr} {n cap : Nat} {xs : List (Int × Int × Int)} {w : World}
theorem arcs_len (h : HasArcs w (.slice ao n cap) xs) : n = xs.length := by
  obtain ⟨ao', cap', e, _⟩ := h
  injection e
end
end Go.Proofs.Ytkehpmbnbknpfaa

namespace Go.Proofs.Ytkehpmbnbknpfaa
open Go.RowKit Go.Extern Go.Sort

attribute [local go_sem] Oper.semAt_some

theorem Try.infoC : (Try.prog.info? 49).map (fun i => (i.zero, i.size, i.bytes)) = some (some (.agg #[.int .i64 0, .int .i64 0, .int .i64 0]), 3, 24) := by kernel_rfl
/-- the cells of arcs. -/
def flatC (l : List (Int × Int × Int)) : List Value := l.flatMap fun a => [.int .i64 a.1, .int .i64 a.2.1, .int .i64 a.2.2]
theorem flatC_len (l : List (Int × Int × Int)) : (flatC l).length = l.length * 3 := by
  induction l with
  | nil => rfl
  | cons a r ih => simp only [flatC, List.flatMap_cons, List.length_append, List.length_cons] at *; rw [ih]; simp; omega
theorem flatC_append (l r : List (Int × Int × Int)) : flatC (l ++ r) = flatC l ++ flatC r := by simp [flatC]
theorem flatC_get : ∀ (l : List (Int × Int × Int)) (i : Nat) (a : Int × Int × Int), l[i]? = some a → (flatC l)[i * 3]? = some (.int .i64 a.1) ∧ (flatC l)[i * 3 + 1]? = some (.int .i64 a.2.1) ∧ (flatC l)[i * 3 + 2]? = some (.int .i64 a.2.2)
  | [], i, a, h => by simp at h
  | b :: r, 0, a, h => by
    simp at h
    subst h
    simp [flatC]
  | b :: r, i + 1, a, h => by
    have ih := flatC_get r i a (by simpa using h)
    have e : flatC (b :: r) = [.int .i64 b.1, .int .i64 b.2.1, .int .i64 b.2.2] ++ flatC r := by simp [flatC]
    rw [e, show (i + 1) * 3 = i * 3 + 3 by omega]
    refine ⟨?_, ?_, ?_⟩
    · rw [List.getElem?_append_right (by simp)]; simpa using ih.1
    · rw [List.getElem?_append_right (by simp)]; simpa [show i * 3 + 3 + 1 - 3 = i * 3 + 1 by omega] using ih.2.1
    · rw [List.getElem?_append_right (by simp)]; simpa [show i * 3 + 3 + 2 - 3 = i * 3 + 2 by omega] using ih.2.2
theorem flatC_one (l : List (Int × Int × Int)) : ∀ u ∈ flatC l, u.oneCell' = true := by
  intro u hu
  simp only [flatC, List.mem_flatMap] at hu
  obtain ⟨a, _, ha⟩ := hu
  simp at ha
  rcases ha with rfl | rfl | rfl <;> rfl
theorem flatC_at {w : World} {a : Addr} {n cap : Nat} {xs : List (Int × Int × Int)} (h : HasArcs w (.slice (some a) n cap) xs) : ∀ j u, (flatC xs)[j]? = some u → w.cell? (a.add j) = some u := by
  intro j u hj
  have hlt := (List.getElem?_eq_some_iff.1 hj).1
  rw [flatC_len] at hlt
  have hx : xs[j / 3]? = some xs[j / 3] := List.getElem?_eq_getElem (by omega)
  obtain ⟨b, off, e, _, h0, h1, h2⟩ := h.at hx
  obtain ⟨g0, g1, g2⟩ := flatC_get xs (j / 3) _ hx
  obtain rfl : a = ⟨b, off, none⟩ := Option.some.inj e
  have ea : (⟨b, off, none⟩ : Addr).add j = ⟨b, off + j, none⟩ := by unfold Addr.add; split <;> simp_all
  rw [ea]
  rcases (show j = j / 3 * 3 ∨ j = j / 3 * 3 + 1 ∨ j = j / 3 * 3 + 2 by omega) with hj' | hj' | hj'
  · rw [hj'] at hj ⊢; rw [g0] at hj; cases hj; exact h0
  · rw [hj'] at hj ⊢; rw [g1] at hj; cases hj; exact h1
  · rw [hj'] at hj ⊢; rw [g2] at hj; cases hj; exact h2
theorem arcs_of_rowC {w : World} {base : Nat} {v : Value} {l : List (Int × Int × Int)} (h : w.ownsRow base 49 3 v l.length (flatC l)) : HasArcs w v l := by
  rcases h.2 with ⟨e, h0⟩ | ⟨g, cap, cur, rfl, hg, hh, _⟩
  · have : l = [] := List.eq_nil_of_length_eq_zero h0
    subst this
    exact ⟨none, 0, e, fun j p hj => by simp at hj⟩
  · refine ⟨_, cap, rfl, fun j a hj => ⟨g, 0, rfl, lt_of_get hh, ?_⟩⟩
    have hlt := (List.getElem?_eq_some_iff.1 hj).1
    obtain ⟨g0, g1, g2⟩ := flatC_get l j a hj
    rw [Nat.zero_add]
    exact ⟨(h.cellAt (j * 3) (by omega)).trans g0, (h.cellAt (j * 3 + 1) (by omega)).trans g1, (h.cellAt (j * 3 + 2) (by omega)).trans g2⟩
theorem rowC_slice {w : World} {base n : Nat} {xs : List Value} {v : Value} (h : w.ownsRow base 49 3 v n xs) : ∃ ao cap, v = .slice ao n cap := by
  rcases h.2 with ⟨h, h'⟩ | ⟨g, cap, cur, h, _⟩
  · exact ⟨none, 0, by rw [h']; exact h⟩
  · exact ⟨_, cap, h⟩

/-- a list of arcs is appended to a row of one's own. -/
theorem wpList_append_arcs {w : World} {ops : Array Oper} {rest : List Oper} {o : Oper} {a : Act} {Q : Exit → Act → World → Prop} (hgd : o.guard = none) (s x : Operand)
    (ho : o.op = .call { callee := .builtin .append, args := #[s, x], argTypes := #[33, 33] })
    (base : Nat) (v : Value) (L : List (Int × Int × Int)) (hs : a.eval s = v) (hown : w.ownsRow base 49 3 v L.length (flatC L))
    (ao : Option Addr) (ac : Nat) (xs : List (Int × Int × Int)) (hx : a.eval x = .slice ao xs.length ac) (hl : HasArcs w (.slice ao xs.length ac) xs) (hno : ao = none → ac = 0)
    (hlen : L.length + xs.length ≤ 1048576) (hbase : base ≤ w.heap.size)
    (h : ∀ v' w', w'.ownsRow base 49 3 v' (L ++ xs).length (flatC (L ++ xs)) → w.grownBy w' v.ownBlock → wpList Try.prog ops Q rest (a.put o.dst v') w') : wpList Try.prog ops Q (o :: rest) a w := by
  obtain ⟨i0, hi, hz0, hz1, hz2⟩ : ∃ i, Try.prog.info? 49 = some i ∧ i.zero = some (.agg #[.int .i64 0, .int .i64 0, .int .i64 0]) ∧ i.size = 3 ∧ i.bytes = 24 := by
    have h := Try.infoC
    cases hi : Try.prog.info? 49 with
    | none => rw [hi] at h; cases h
    | some i => rw [hi] at h; simp at h; exact ⟨i, rfl, h.1, h.2.1, h.2.2⟩
  cases ao with
  | none =>
    have hc := hno rfl
    subst hc
    have hx0 : xs = [] := by
      cases xs with
      | nil => rfl
      | cons q r => obtain ⟨b, off, e, _⟩ := hl.at (k := 0) (a := q) rfl; cases e
    subst hx0
    refine wpList_append_own_none hgd s x 33 ho base 49 i0 3 Try.underlying33 hi v L.length (flatC L) hs hown hx ?_
    exact h v w (by simpa using hown) ⟨rfl, rfl, rfl, Nat.le_refl _, fun _ _ _ => rfl⟩
  | some ad =>
    refine wpList_append_own _ hgd s x 33 ho base 49 i0 _ 3 24 Try.underlying33 hi hz0 hz1 hz2 rfl (by decide) v L.length (flatC L) hs hown ad xs.length ac (flatC xs) hx (flatC_len xs) (flatC_at hl) (flatC_one xs) (by unfold maxLen; omega) (by omega) hbase ?_
    intro v' w' h1 h2 _
    exact h v' w' (by rw [List.length_append, flatC_append]; exact h1) h2

end Go.Proofs.Ytkehpmbnbknpfaa

namespace Go.Proofs.Ytkehpmbnbknpfaa
open Go.RowKit Go.Extern Go.Sort Go.Shelf

attribute [local go_sem] Oper.semAt_some

set_option maxRecDepth 100000 in
theorem less_calls (a b : Int × Int × Int) (w : World) : Calls Try.prog 85 #[arcV a, arcV b] w fun e w' => e = .returned (.bool (decide (lessA a b))) ∧ RowKit.Below w.heap.size w w' := by
  obtain ⟨a0, a1, a2⟩ := a
  obtain ⟨b0, b1, b2⟩ := b
  have HB : Hid (∀ u v : Obj, RowKit.Below w.heap.size w ((w.alloc u).alloc v)) := fun u v => ((RowKit.Below.refl _ w).alloc (Nat.le_refl _) _).alloc (by simp) _
  unfold arcV lessA
  simp only
  by_cases h0 : a0 < b0
  · go_enter Try.func85, Try.ntmps85
    go_wp2
    go_ret
    exact ⟨by simp [h0], HB.out _ _⟩
  · by_cases h1 : a0 = b0
    · subst h1
      by_cases h2 : a1 < b1
      · go_enter Try.func85, Try.ntmps85
        go_wp2
        go_ret
        exact ⟨by simp, HB.out _ _⟩
      · go_enter Try.func85, Try.ntmps85
        go_wp2
        go_ret
        exact ⟨by simp [h2], HB.out _ _⟩
    · go_enter Try.func85, Try.ntmps85
      go_wp2
      go_ret
      exact ⟨by simp [h0], HB.out _ _⟩

theorem Try.elemP : Try.prog.underlying 33 = some (.slice (Try.prog.elem 33)) := by kernel_rfl
theorem Try.sizeP (w : World) : (sizeOf (Try.prog.elem 33)).run Try.prog w = .ok 3 w := by kernel_rfl
/-- a slice that can be cut. -/
def Cut (lo : Option Addr) (n lc : Nat) : Prop := (lo = none ∧ n = 0 ∧ lc = 0) ∨ ∃ b off, lo = some ⟨b, off, none⟩ ∧ 0 < n ∧ n ≤ lc
theorem Cut.le {lo : Option Addr} {n lc : Nat} (h : Cut lo n lc) : n ≤ lc ∧ (lo = none → lc = 0) := by
  rcases h with ⟨rfl, rfl, rfl⟩ | ⟨b, off, rfl, h1, h2⟩
  · exact ⟨Nat.le_refl _, fun _ => rfl⟩
  · exact ⟨h2, fun e => by cases e⟩
theorem Cut.to {lo : Option Addr} {n lc : Nat} (h : Cut lo n lc) (i : Nat) (hi : i ≤ n) (w : World) : (Instr.slice 33 (.slice lo n lc) none (some (.int .i64 (i : Int))) none).run Try.prog w = .ok (.slice lo i lc) w := by
  have hle := h.le.1
  rw [run_slice_h (ht := Try.elemP) (h0 := by omega) (h2 := by omega), Try.sizeP]
  have e2 : (i : Int).toNat = i := by omega
  simp only [Result.andThen_ok, sliced, e2]
  rcases h with ⟨rfl, rfl, rfl⟩ | ⟨b, off, rfl, h1, h2⟩
  · simp
  · simp [Addr.add]
theorem Cut.from {lo : Option Addr} {n lc : Nat} (h : Cut lo n lc) (i : Nat) (hi : i ≤ n) : ∃ ao, (∀ w, (Instr.slice 33 (.slice lo n lc) (some (.int .i64 (i : Int))) none none).run Try.prog w = .ok (.slice ao (n - i) (lc - i)) w) ∧ (ao = none → lc - i = 0) ∧ ∀ (w : World) (l : List (Int × Int × Int)), l.length = n → HasArcs w (.slice lo n lc) l → HasArcs w (.slice ao (n - i) (lc - i)) (l.drop i) := by
  have hle := h.le.1
  have e2 : (i : Int).toNat = i := by omega
  refine ⟨if lc = i then lo else lo.map (·.add (i * 3)), fun w => ?_, fun e => ?_, fun w l hl hA => ?_⟩
  · rw [run_slice_l (ht := Try.elemP) (h0 := by omega) (h1 := by omega), Try.sizeP]
    simp only [Result.andThen_ok, sliced, e2]
  · rcases h with ⟨rfl, rfl, rfl⟩ | ⟨b, off, rfl, h1, h2⟩
    · omega
    · split at e
      · omega
      · simp at e
  · refine ⟨_, _, by rw [List.length_drop, hl], fun j a hj => ?_⟩
    rw [List.getElem?_drop] at hj
    have hlt := (List.getElem?_eq_some_iff.1 hj).1
    obtain ⟨b, off, e, hb, c0, c1, c2⟩ := hA.at hj
    rw [if_neg (by omega), e]
    refine ⟨b, off + i * 3, by simp [Addr.add], hb, ?_, ?_, ?_⟩
    · rw [show off + i * 3 + j * 3 = off + (i + j) * 3 by omega]; exact c0
    · rw [show off + i * 3 + j * 3 = off + (i + j) * 3 by omega]; exact c1
    · rw [show off + i * 3 + j * 3 = off + (i + j) * 3 by omega]; exact c2
theorem arcs_take {w : World} {lo : Option Addr} {n lc : Nat} {l : List (Int × Int × Int)} (h : HasArcs w (.slice lo n lc) l) (i : Nat) (hi : i ≤ l.length) : HasArcs w (.slice lo i lc) (l.take i) := by
  refine ⟨lo, lc, by rw [List.length_take, Nat.min_eq_left hi], fun j a hj => ?_⟩
  have hlt := (List.getElem?_eq_some_iff.1 hj).1
  rw [List.length_take] at hlt
  rw [List.getElem?_take_of_lt (by omega)] at hj
  exact h.at hj
/-- where an arc is put. -/
theorem put_split : ∀ (l : List (Int × Int × Int)) (a : Int × Int × Int), ∃ k, k ≤ l.length ∧ (∀ j x, j < k → l[j]? = some x → lessA x a) ∧ ((k = l.length ∧ putA l a = l.take k ++ [a] ++ l.drop k) ∨ ∃ b, l[k]? = some b ∧ ¬ lessA b a ∧ ((sameA b a ∧ putA l a = l.take k ++ [(a.1, a.2.1, min a.2.2 b.2.2)] ++ l.drop (k + 1)) ∨ (¬ sameA b a ∧ putA l a = l.take k ++ [a] ++ l.drop k)))
  | [], a => ⟨0, Nat.le_refl _, fun j x h => by omega, Or.inl ⟨rfl, rfl⟩⟩
  | b :: r, a => by
    by_cases h : lessA b a
    · obtain ⟨k, hk, h1, h2⟩ := put_split r a
      have e : putA (b :: r) a = b :: putA r a := by rw [putA, if_pos h]
      refine ⟨k + 1, by simp; omega, fun j x hj hx => ?_, ?_⟩
      · cases j with
        | zero => simp at hx; subst hx; exact h
        | succ j => exact h1 j x (by omega) (by simpa using hx)
      · rw [e]
        rcases h2 with ⟨hk', e'⟩ | ⟨c, hc, hn, ⟨hs, e'⟩ | ⟨hs, e'⟩⟩
        · exact Or.inl ⟨by simp; exact hk', by rw [e']; simp⟩
        · exact Or.inr ⟨c, by simpa using hc, hn, Or.inl ⟨hs, by rw [e']; simp⟩⟩
        · exact Or.inr ⟨c, by simpa using hc, hn, Or.inr ⟨hs, by rw [e']; simp⟩⟩
    · refine ⟨0, Nat.zero_le _, fun j x hj => by omega, Or.inr ⟨b, rfl, h, ?_⟩⟩
      by_cases hs : sameA b a
      · exact Or.inl ⟨hs, by rw [putA, if_neg h, if_pos hs]; simp⟩
      · exact Or.inr ⟨hs, by rw [putA, if_neg h, if_neg hs]; simp⟩
end Go.Proofs.Ytkehpmbnbknpfaa

namespace Go.Proofs.Ytkehpmbnbknpfaa
open Go.RowKit Go.Extern Go.Sort Go.Shelf

attribute [local go_sem] Oper.semAt_some

/-- one arc in a block of its own. -/
theorem arcs_one (w : World) (a : Int × Int × Int) (T : TypeId) : HasArcs (w.alloc (.cells #[.int .i64 a.1, .int .i64 a.2.1, .int .i64 a.2.2] T)) (.slice (some ⟨w.heap.size, 0, none⟩) 1 1) [a] := by
  have h := heap_new w (.cells #[.int .i64 a.1, .int .i64 a.2.1, .int .i64 a.2.2] T)
  generalize w.alloc (.cells #[.int .i64 a.1, .int .i64 a.2.1, .int .i64 a.2.2] T) = W at h ⊢
  refine ⟨_, _, rfl, fun j x hj => ?_⟩
  cases j with
  | zero =>
    simp at hj
    subst hj
    exact ⟨_, 0, rfl, lt_of_get h, by simp [World.cell?, h], by simp [World.cell?, h], by simp [World.cell?, h]⟩
  | succ j => simp at hj
/-- a row of one's own is kept where its block is. -/
theorem rowC_keep {w w' : World} {base n : Nat} {xs : List Value} {v : Value} (h : w.ownsRow base 49 3 v n xs) (hk : RowKit.Below w.heap.size w w') : w'.ownsRow base 49 3 v n xs := by
  obtain ⟨h1, h2⟩ := h
  refine ⟨h1, ?_⟩
  rcases h2 with h2 | ⟨g, cap, cur, e, hb, hh, r⟩
  · exact Or.inl h2
  · exact Or.inr ⟨g, cap, cur, e, hb, (hk.block g (lt_of_get hh)).trans hh, r⟩
theorem below_grown {w0 w w' : World} {base n : Nat} {xs : List Value} {v : Value} (hb : RowKit.Below base w0 w) (h : w.ownsRow base 49 3 v n xs) (hg : w.grownBy w' v.ownBlock) (hs : base ≤ w.heap.size) : RowKit.Below base w0 w' :=
  hb.trans ⟨hg.os, hg.tape, hg.output, hg.size, fun j hj => hg.block j (Nat.lt_of_lt_of_le hj hs) (fun e => by have := (h.lt j e.symm).1; omega)⟩

theorem below_grown2 {w0 w w' : World} {base base' n : Nat} {xs : List Value} {v : Value} (hb : RowKit.Below base w0 w) (h : w.ownsRow base' 49 3 v n xs) (hg : w.grownBy w' v.ownBlock) (hs : base ≤ w.heap.size) (hbb : base ≤ base') : RowKit.Below base w0 w' :=
  hb.trans ⟨hg.os, hg.tape, hg.output, hg.size, fun j hj => hg.block j (Nat.lt_of_lt_of_le hj hs) (fun e => by have := (h.lt j e.symm).1; omega)⟩
theorem rowC_far {w w' : World} {base n : Nat} {xs : List Value} {v : Value} (h : w.ownsRow base 49 3 v n xs) (hk : ∀ g, base ≤ g → g < w.heap.size → w'.heap[g]? = w.heap[g]?) : w'.ownsRow base 49 3 v n xs := by
  obtain ⟨h1, h2⟩ := h
  refine ⟨h1, ?_⟩
  rcases h2 with h2 | ⟨g, cap, cur, e, hb, hh, r⟩
  · exact Or.inl h2
  · exact Or.inr ⟨g, cap, cur, e, hb, (hk g hb (lt_of_get hh)).trans hh, r⟩
theorem below_dalloc (w : World) (q : Nat) (X : Obj) : RowKit.Below w.heap.size w ((w.drewN q).alloc X) := (show RowKit.Below w.heap.size w (w.drewN q) from ⟨rfl, rfl, rfl, Nat.le_refl _, fun _ _ => rfl⟩).alloc (Nat.le_refl _) X

set_option maxRecDepth 100000 in
set_option maxHeartbeats 1000000 in
theorem put_calls (a : Int × Int × Int) (lo : Option Addr) (lc : Nat) (l : List (Int × Int × Int)) (w : World) (hl : HasArcs w (.slice lo l.length lc) l) (hcut : Cut lo l.length lc) (hm : l.length ≤ 262144) :
    Calls Try.prog 79 #[.slice lo l.length lc, arcV a] w fun e w' => ∃ v, e = .returned v ∧ w'.ownsRow (w.heap.size + 1) 49 3 v (putA l a).length (flatC (putA l a)) ∧ RowKit.Below w.heap.size w w' := by
  obtain ⟨k0, hk0, hless, hsp⟩ := put_split l a
  have HLS : Hid (∀ x y wx, Calls Try.prog 85 #[arcV x, arcV y] wx fun e w' => e = .returned (.bool (decide (lessA x y))) ∧ RowKit.Below wx.heap.size wx w') := fun x y wx => less_calls x y wx
  obtain ⟨W0, hW0⟩ : ∃ W0, w.alloc (.cells #[.int .i64 a.1, .int .i64 a.2.1, .int .i64 a.2.2] 49) = W0 := ⟨_, rfl⟩
  have hB0 : RowKit.Below w.heap.size w W0 := by rw [← hW0]; exact (RowKit.Below.refl _ w).alloc (Nat.le_refl _) _
  have k1 : W0.heap[w.heap.size]? = some (.cells #[.int .i64 a.1, .int .i64 a.2.1, .int .i64 a.2.2] 49) := by rw [← hW0]; exact heap_new _ _
  have hs0 : W0.heap.size = w.heap.size + 1 := by rw [← hW0]; simp
  have HW0 : Hid (w.alloc (.cells #[.int .i64 a.1, .int .i64 a.2.1, .int .i64 a.2.2] 49) = W0) := hW0
  have HK : Hid (∀ wx, RowKit.Below W0.heap.size W0 wx → wx.heap[w.heap.size]? = some (.cells #[.int .i64 a.1, .int .i64 a.2.1, .int .i64 a.2.2] 49) ∧ RowKit.Below w.heap.size w wx ∧ HasArcs wx (.slice lo l.length lc) l) := fun wx h => by
    have hb := hB0.trans (h.mono hB0.size)
    exact ⟨(h.block _ (lt_of_get k1)).trans k1, hb, hl.keep hb⟩
  have HS0 : Hid (W0.heap.size = w.heap.size + 1) := hs0
  have HLE : Hid (∀ j x, j < k0 → l[j]? = some x → lessA x a) := hless
  have HSP : Hid (type_of% hsp) := hsp
  have HCU : Hid (Cut lo l.length lc) := hcut
  have HL : Hid (HasArcs w (.slice lo l.length lc) l) := hl
  clear hl hcut hless hsp k1 hB0 hW0 hs0
  obtain ⟨a0, a1, a2⟩ := a
  unfold arcV
  simp only at *
  go_enter Try.func79, Try.ntmps79
  go_wp2_with fail
  rw [HW0.out]
  go_loopw [5] (fun iv wr => ∃ k : Nat, k ≤ k0 ∧ iv = .int .i64 k ∧ RowKit.Below W0.heap.size W0 wr) (fun iv _ => k0 - (intOf iv).toNat)
  case atStart => exact ⟨0, Nat.zero_le _, rfl, RowKit.Below.refl _ _⟩
  case round =>
    obtain ⟨k, hk, rfl, hb⟩ := hrel
    have HB : Hid (RowKit.Below W0.heap.size W0 wr) := hb
    obtain ⟨hbox, _, hA⟩ := HK.out wr hb
    have hwl : w.heap.size < wr.heap.size := lt_of_get hbox
    obtain ⟨t0, t1, t2⟩ : wr.cell? ⟨w.heap.size, 0, none⟩ = some (.int .i64 a0) ∧ wr.cell? ⟨w.heap.size, 1, none⟩ = some (.int .i64 a1) ∧ wr.cell? ⟨w.heap.size, 2, none⟩ = some (.int .i64 a2) := by simp [World.cell?, hbox]
    have b0 : (0 : Int) ≤ k := by omega
    clear hb hbox
    by_cases hlt : k < l.length
    · obtain ⟨x, hx⟩ : ∃ x, l[k]? = some x := ⟨l[k], List.getElem?_eq_getElem hlt⟩
      obtain ⟨b, off, hlo, hbl, q0, q1, q2⟩ := hA.at hx
      obtain ⟨x0, x1, x2⟩ := x
      simp only at q0 q1 q2
      subst hlo
      have HX : Hid (l[k]? = some (x0, x1, x2)) := hx
      have b1 : (k : Int) < (l.length : Int) := by omega
      have HCL : Hid (∀ wx, RowKit.Below wr.heap.size wr wx → (wx.cell? ⟨b, off + k * 3, none⟩ = some (.int .i64 x0) ∧ wx.cell? ⟨b, off + k * 3 + 1, none⟩ = some (.int .i64 x1) ∧ wx.cell? ⟨b, off + k * 3 + 2, none⟩ = some (.int .i64 x2)) ∧ wx.cell? ⟨w.heap.size, 0, none⟩ = some (.int .i64 a0) ∧ wx.cell? ⟨w.heap.size, 1, none⟩ = some (.int .i64 a1) ∧ wx.cell? ⟨w.heap.size, 2, none⟩ = some (.int .i64 a2)) := fun wx h =>
        ⟨⟨(h.cell (p := ⟨b, off + k * 3, none⟩) hbl).trans q0, (h.cell (p := ⟨b, off + k * 3 + 1, none⟩) hbl).trans q1, (h.cell (p := ⟨b, off + k * 3 + 2, none⟩) hbl).trans q2⟩, (h.cell (p := ⟨w.heap.size, 0, none⟩) hwl).trans t0, (h.cell (p := ⟨w.heap.size, 1, none⟩) hwl).trans t1, (h.cell (p := ⟨w.heap.size, 2, none⟩) hwl).trans t2⟩
      have HE : Hid (∀ wx, Calls Try.prog 85 #[.agg #[.int .i64 x0, .int .i64 x1, .int .i64 x2], .agg #[.int .i64 a0, .int .i64 a1, .int .i64 a2]] wx fun e w' => e = .returned (.bool (decide (lessA (x0, x1, x2) (a0, a1, a2)))) ∧ RowKit.Below wx.heap.size wx w') := fun wx => HLS.out (x0, x1, x2) (a0, a1, a2) wx
      clear hA hx
      by_cases hkk : k < k0
      · have HE' : Hid (∀ wx, Calls Try.prog 85 #[.agg #[.int .i64 x0, .int .i64 x1, .int .i64 x2], .agg #[.int .i64 a0, .int .i64 a1, .int .i64 a2]] wx fun e w' => e = .returned (.bool true) ∧ RowKit.Below wx.heap.size wx w') := fun wx => by
          have h := HE.out wx
          rw [decide_eq_true (HLE.out k _ hkk HX.out)] at h
          exact h
        clear HE
        go_wp2_with fail
        go_region_held3 (fun w' => w'.cell? ⟨b, off + k * 3, none⟩ = some (.int .i64 x0) ∧ w'.cell? ⟨b, off + k * 3 + 1, none⟩ = some (.int .i64 x1) ∧ w'.cell? ⟨b, off + k * 3 + 2, none⟩ = some (.int .i64 x2) ∧ w'.cell? ⟨w.heap.size, 0, none⟩ = some (.int .i64 a0) ∧ w'.cell? ⟨w.heap.size, 1, none⟩ = some (.int .i64 a1) ∧ w'.cell? ⟨w.heap.size, 2, none⟩ = some (.int .i64 a2)) (go_keep) (first
          | (go_at_call 85; refine (HE'.out _).mono ?_; rintro e w1 ⟨rfl, hL1⟩; have HL1 : Hid (RowKit.Below wr.heap.size wr w1) := (RowKit.Below.refl _ wr).drew.trans hL1; obtain ⟨⟨g0, g1, g2⟩, g3, g4, g5⟩ := HCL.out w1 HL1.out; clear hL1))
        all_goals
          have HB1 : Hid (RowKit.Below W0.heap.size W0 w1) := HB.out.trans (HL1.out.mono HB.out.size)
          go_wp2
          go_roundw
          case rel => exact ⟨k + 1, by omega, by go_num, HB1.out⟩
          case measure => simp [intOf]; omega
      · obtain rfl : k = k0 := by omega
        obtain ⟨hnl, hsp⟩ : ¬ lessA (x0, x1, x2) (a0, a1, a2) ∧ ((sameA (x0, x1, x2) (a0, a1, a2) ∧ putA l (a0, a1, a2) = l.take k ++ [(a0, a1, min a2 x2)] ++ l.drop (k + 1)) ∨ (¬ sameA (x0, x1, x2) (a0, a1, a2) ∧ putA l (a0, a1, a2) = l.take k ++ [(a0, a1, a2)] ++ l.drop k)) := by
          rcases HSP.out with ⟨h, _⟩ | ⟨c, hc, h1, h2⟩
          · exact absurd h (by omega)
          · obtain rfl : (x0, x1, x2) = c := Option.some.inj (HX.out.symm.trans hc)
            exact ⟨h1, h2⟩
        have HE' : Hid (∀ wx, Calls Try.prog 85 #[.agg #[.int .i64 x0, .int .i64 x1, .int .i64 x2], .agg #[.int .i64 a0, .int .i64 a1, .int .i64 a2]] wx fun e w' => e = .returned (.bool false) ∧ RowKit.Below wx.heap.size wx w') := fun wx => by
          have h := HE.out wx
          rw [decide_eq_false hnl] at h
          exact h
        clear HE hnl HSP HLE
        rcases hsp with ⟨hs, hsq⟩ | ⟨hs, hsq⟩
        · have HSQ : Hid (putA l (a0, a1, a2) = l.take k ++ [(a0, a1, min a2 x2)] ++ l.drop (k + 1)) := hsq
          clear hsq
          go_wp2_with fail
          go_region_held3 (fun w' => w'.cell? ⟨b, off + k * 3, none⟩ = some (.int .i64 x0) ∧ w'.cell? ⟨b, off + k * 3 + 1, none⟩ = some (.int .i64 x1) ∧ w'.cell? ⟨b, off + k * 3 + 2, none⟩ = some (.int .i64 x2) ∧ w'.cell? ⟨w.heap.size, 0, none⟩ = some (.int .i64 a0) ∧ w'.cell? ⟨w.heap.size, 1, none⟩ = some (.int .i64 a1) ∧ w'.cell? ⟨w.heap.size, 2, none⟩ = some (.int .i64 a2)) (go_keep) (first
            | (go_at_call 85; refine (HE'.out _).mono ?_; rintro e w1 ⟨rfl, hL1⟩; have HL1 : Hid (RowKit.Below wr.heap.size wr w1) := (RowKit.Below.refl _ wr).drew.trans hL1; obtain ⟨⟨g0, g1, g2⟩, g3, g4, g5⟩ := HCL.out w1 HL1.out; clear hL1))
          all_goals
            have HBW : Hid (RowKit.Below W0.heap.size W0 w1) := HB.out.trans (HL1.out.mono HB.out.size)
            clear HB HL1 HCL HE' g0 g1 g2 g3 g4 g5 t0 t1 t2 q0 q1 q2 hbl hwl
            obtain ⟨hx0, hx1⟩ := hs
            simp only at hx0 hx1
            have hto := fun wx => HCU.out.to k hk0 wx
            obtain ⟨fo, hfr, hfn, hfa⟩ := HCU.out.from (k + 1) (by omega)
            have HFA : Hid (type_of% hfa) := hfa
            have HLK : Hid ((l.take k).length = k) := by show _ = _; rw [List.length_take]; omega
            have HLD : Hid ((l.drop (k + 1)).length = l.length - (k + 1)) := List.length_drop
            have HFN : Hid (fo = none → lc - (k + 1) = 0) := hfn
            clear hfa hfn
            go_wp2_with (at_builtin; refine wpList_append_arcs rfl _ _ rfl W0.heap.size (.slice none 0 0) [] rfl (World.ownsRow_nil _ _ _ _) (some ⟨b, off, none⟩) lc (l.take k) (by rw [HLK.out]; rfl) (by rw [HLK.out]; exact arcs_take (HK.out _ HBW.out).2.2 k hk0) HCU.out.le.2 (by rw [HLK.out]; simp; omega) HBW.out.size ?_; intro v2 w2 hown2 hgr2; rw [List.nil_append] at hown2; obtain ⟨so2, sc2, hv2⟩ := rowC_slice hown2; rw [HLK.out] at hv2; subst hv2; have HO2 : Hid (w2.ownsRow W0.heap.size 49 3 (.slice so2 k sc2) (l.take k).length (flatC (l.take k))) := hown2; have HB2 : Hid (RowKit.Below W0.heap.size W0 w2) := below_grown HBW.out (World.ownsRow_nil _ _ _ _) hgr2 HBW.out.size; obtain ⟨hbox2, _, hA2⟩ := HK.out w2 HB2.out; obtain ⟨u0, u1, u2⟩ : w2.cell? ⟨w.heap.size, 0, none⟩ = some (.int .i64 a0) ∧ w2.cell? ⟨w.heap.size, 1, none⟩ = some (.int .i64 a1) ∧ w2.cell? ⟨w.heap.size, 2, none⟩ = some (.int .i64 a2) := (by simp [World.cell?, hbox2]); have u3 : w2.frozen? ⟨w.heap.size, 2, none⟩ = false := (by simp [World.frozen?, hbox2]); have hwl2 : w.heap.size < w2.heap.size := lt_of_get hbox2; obtain ⟨b', off', e', _, s0, s1, s2⟩ := hA2.at HX.out; cases e'; clear hown2 hgr2 hbox2 hA2)
            have HO2b : Hid (∀ q v X, (((w2.drewN q).setCell ⟨w.heap.size, 2, none⟩ v).alloc X).ownsRow W0.heap.size 49 3 (.slice so2 k sc2) (l.take k).length (flatC (l.take k))) := fun q v X => by
              have hs := HS0.out
              refine rowC_keep (rowC_far HO2.out (fun g hg _ => ?_)) ((RowKit.Below.refl _ _).alloc (Nat.le_refl _) _)
              exact heap_setCell_other _ _ _ _ (by show g ≠ w.heap.size; omega)
            have HBb : Hid (∀ q v X, RowKit.Below w.heap.size w (((w2.drewN q).setCell ⟨w.heap.size, 2, none⟩ v).alloc X)) := fun q v X => by
              have h := (HK.out w2 HB2.out).2.1
              have h2 : RowKit.Below w.heap.size w (w2.drewN q) := ⟨h.os, h.tape, h.output, h.size, h.block⟩
              exact (h2.setCell (p := ⟨w.heap.size, 2, none⟩) (Nat.le_refl _) v).alloc (by simp; exact h.size) X
            have hk1 : ((k + 1 : Nat) : Int) = (k : Int) + 1 := by omega
            rw [hk1] at hfr
            clear hk1
            go_quiet (fail)
            go_wp2_with fail
            go_region
            go_wp2_with (at_builtin; first | (refine wpList_append_arcs rfl _ _ rfl W0.heap.size (.slice so2 k sc2) (l.take k) rfl (HO2b.out _ _ _) (some ⟨w2.heap.size, 0, none⟩) 1 [(a0, a1, min a2 x2)] rfl (by simpa using arcs_one ((w2.drewN _).setCell ⟨w.heap.size, 2, none⟩ (.int .i64 (min a2 x2))) (a0, a1, min a2 x2) 49) (fun e => by cases e) (by simp only [HLK.out, List.length_cons, List.length_nil]; omega) (by have := HB2.out.size; simp; omega) ?_; intro v3 w3 hown3 hgr3; obtain ⟨so3, sc3, hv3⟩ := rowC_slice hown3; have hv3' : v3 = .slice so3 (k + 1) sc3 := (by rw [hv3, List.length_append, HLK.out]; rfl); clear hv3; subst hv3'; have HO3 : Hid (w3.ownsRow W0.heap.size 49 3 (.slice so3 (k + 1) sc3) (l.take k ++ [(a0, a1, min a2 x2)]).length (flatC (l.take k ++ [(a0, a1, min a2 x2)]))) := hown3; have HB3 : Hid (RowKit.Below w.heap.size w w3 ∧ W0.heap.size ≤ w3.heap.size) := ⟨below_grown2 (HBb.out _ _ _) (HO2b.out _ _ _) hgr3 (HBb.out _ _ _).size (by have := HS0.out; omega), Nat.le_trans HB2.out.size (Nat.le_trans (by simp) hgr3.size)⟩; clear hown3 hgr3 u0 u1 u2 u3 hwl2 s0 s1 s2) | (refine wpList_append_arcs rfl _ _ rfl W0.heap.size (.slice so3 (k + 1) sc3) (l.take k ++ [(a0, a1, min a2 x2)]) rfl HO3.out fo (lc - (k + 1)) (l.drop (k + 1)) (by rw [HLD.out]; rfl) (by rw [HLD.out]; exact HFA.out _ l rfl (HL.out.keep HB3.out.1)) HFN.out (by simp only [List.length_append, HLK.out, HLD.out, List.length_cons, List.length_nil]; omega) HB3.out.2 ?_; intro v4 w4 hown4 hgr4; have HO4 : Hid (w4.ownsRow W0.heap.size 49 3 v4 (l.take k ++ [(a0, a1, min a2 x2)] ++ l.drop (k + 1)).length (flatC (l.take k ++ [(a0, a1, min a2 x2)] ++ l.drop (k + 1)))) := hown4; have HB4 : Hid (RowKit.Below w.heap.size w w4) := below_grown2 HB3.out.1 HO3.out hgr4 HB3.out.1.size (by have := HS0.out; omega); clear hown4 hgr4))
            go_wp2
            go_ret
            refine ⟨_, rfl, ?_, HB4.out⟩
            have h := HO4.out
            rw [HSQ.out, ← HS0.out]
            exact h
        · have HSQ : Hid (putA l (a0, a1, a2) = l.take k ++ [(a0, a1, a2)] ++ l.drop k) := hsq
          clear hsq
          go_wp2_with fail
          go_region_held3 (fun w' => w'.cell? ⟨b, off + k * 3, none⟩ = some (.int .i64 x0) ∧ w'.cell? ⟨b, off + k * 3 + 1, none⟩ = some (.int .i64 x1) ∧ w'.cell? ⟨b, off + k * 3 + 2, none⟩ = some (.int .i64 x2) ∧ w'.cell? ⟨w.heap.size, 0, none⟩ = some (.int .i64 a0) ∧ w'.cell? ⟨w.heap.size, 1, none⟩ = some (.int .i64 a1) ∧ w'.cell? ⟨w.heap.size, 2, none⟩ = some (.int .i64 a2)) (go_keep) (first
            | (go_at_call 85; refine (HE'.out _).mono ?_; rintro e w1 ⟨rfl, hL1⟩; have HL1 : Hid (RowKit.Below wr.heap.size wr w1) := (RowKit.Below.refl _ wr).drew.trans hL1; obtain ⟨⟨g0, g1, g2⟩, g3, g4, g5⟩ := HCL.out w1 HL1.out; clear hL1))
          all_goals
            have HBW : Hid (RowKit.Below W0.heap.size W0 w1) := HB.out.trans (HL1.out.mono HB.out.size)
            clear HB HL1 HCL HE' g0 g1 g2 g3 g4 g5 t0 t1 t2 q0 q1 q2 hbl hwl
            by_cases hx0 : x0 = a0
            · have hx1 : ¬ x1 = a1 := fun h => hs ⟨hx0, h⟩
              clear hs
              have hto := fun wx => HCU.out.to k hk0 wx
              obtain ⟨fo, hfr, hfn, hfa⟩ := HCU.out.from k hk0
              have HFA : Hid (type_of% hfa) := hfa
              have HLK : Hid ((l.take k).length = k) := by show _ = _; rw [List.length_take]; omega
              have HLD : Hid ((l.drop k).length = l.length - k) := List.length_drop
              have HFN : Hid (fo = none → lc - k = 0) := hfn
              clear hfa hfn
              go_wp2_with (at_builtin; refine wpList_append_arcs rfl _ _ rfl W0.heap.size (.slice none 0 0) [] rfl (World.ownsRow_nil _ _ _ _) (some ⟨b, off, none⟩) lc (l.take k) (by rw [HLK.out]; rfl) (by rw [HLK.out]; exact arcs_take (HK.out _ HBW.out).2.2 k hk0) HCU.out.le.2 (by rw [HLK.out]; simp; omega) HBW.out.size ?_; intro v2 w2 hown2 hgr2; rw [List.nil_append] at hown2; obtain ⟨so2, sc2, hv2⟩ := rowC_slice hown2; rw [HLK.out] at hv2; subst hv2; have HO2 : Hid (w2.ownsRow W0.heap.size 49 3 (.slice so2 k sc2) (l.take k).length (flatC (l.take k))) := hown2; have HB2 : Hid (RowKit.Below W0.heap.size W0 w2) := below_grown HBW.out (World.ownsRow_nil _ _ _ _) hgr2 HBW.out.size; obtain ⟨hbox2, _, hA2⟩ := HK.out w2 HB2.out; obtain ⟨u0, u1, u2⟩ : w2.cell? ⟨w.heap.size, 0, none⟩ = some (.int .i64 a0) ∧ w2.cell? ⟨w.heap.size, 1, none⟩ = some (.int .i64 a1) ∧ w2.cell? ⟨w.heap.size, 2, none⟩ = some (.int .i64 a2) := (by simp [World.cell?, hbox2]); have hwl2 : w.heap.size < w2.heap.size := lt_of_get hbox2; obtain ⟨b', off', e', _, s0, s1, s2⟩ := hA2.at HX.out; cases e'; clear hown2 hgr2 hbox2 hA2)
              go_quiet (fail)
              go_wp2_with (at_builtin; first | (refine wpList_append_arcs rfl _ _ rfl W0.heap.size (.slice so2 k sc2) (l.take k) rfl (rowC_keep HO2.out (below_dalloc w2 _ _)) (some ⟨w2.heap.size, 0, none⟩) 1 [(a0, a1, a2)] rfl (arcs_one (w2.drewN _) (a0, a1, a2) 49) (fun e => by cases e) (by simp only [HLK.out, List.length_cons, List.length_nil]; omega) (Nat.le_trans HB2.out.size (below_dalloc w2 _ _).size) ?_; intro v3 w3 hown3 hgr3; obtain ⟨so3, sc3, hv3⟩ := rowC_slice hown3; have hv3' : v3 = .slice so3 (k + 1) sc3 := (by rw [hv3, List.length_append, HLK.out]; rfl); clear hv3; subst hv3'; have HO3 : Hid (w3.ownsRow W0.heap.size 49 3 (.slice so3 (k + 1) sc3) (l.take k ++ [(a0, a1, a2)]).length (flatC (l.take k ++ [(a0, a1, a2)]))) := hown3; have HB3 : Hid (RowKit.Below W0.heap.size W0 w3) := below_grown (HB2.out.trans ((below_dalloc w2 _ _).mono HB2.out.size)) (rowC_keep HO2.out (below_dalloc w2 _ _)) hgr3 (Nat.le_trans HB2.out.size (below_dalloc w2 _ _).size); clear hown3 hgr3 u0 u1 u2 hwl2 s0 s1 s2) | (refine wpList_append_arcs rfl _ _ rfl W0.heap.size (.slice so3 (k + 1) sc3) (l.take k ++ [(a0, a1, a2)]) rfl HO3.out fo (lc - k) (l.drop k) (by rw [HLD.out]; rfl) (by rw [HLD.out]; exact HFA.out _ l rfl (HK.out _ HB3.out).2.2) HFN.out (by simp only [List.length_append, HLK.out, HLD.out, List.length_cons, List.length_nil]; omega) HB3.out.size ?_; intro v4 w4 hown4 hgr4; have HO4 : Hid (w4.ownsRow W0.heap.size 49 3 v4 (l.take k ++ [(a0, a1, a2)] ++ l.drop k).length (flatC (l.take k ++ [(a0, a1, a2)] ++ l.drop k))) := hown4; have HB4 : Hid (RowKit.Below W0.heap.size W0 w4) := below_grown HB3.out HO3.out hgr4 HB3.out.size; clear hown4 hgr4))
              go_wp2
              go_ret
              refine ⟨_, rfl, ?_, (HK.out w4 HB4.out).2.1⟩
              have h := HO4.out
              rw [HSQ.out, ← HS0.out]
              exact h
            · clear hs
              have hto := fun wx => HCU.out.to k hk0 wx
              obtain ⟨fo, hfr, hfn, hfa⟩ := HCU.out.from k hk0
              have HFA : Hid (type_of% hfa) := hfa
              have HLK : Hid ((l.take k).length = k) := by show _ = _; rw [List.length_take]; omega
              have HLD : Hid ((l.drop k).length = l.length - k) := List.length_drop
              have HFN : Hid (fo = none → lc - k = 0) := hfn
              clear hfa hfn
              go_wp2_with (at_builtin; refine wpList_append_arcs rfl _ _ rfl W0.heap.size (.slice none 0 0) [] rfl (World.ownsRow_nil _ _ _ _) (some ⟨b, off, none⟩) lc (l.take k) (by rw [HLK.out]; rfl) (by rw [HLK.out]; exact arcs_take (HK.out _ HBW.out).2.2 k hk0) HCU.out.le.2 (by rw [HLK.out]; simp; omega) HBW.out.size ?_; intro v2 w2 hown2 hgr2; rw [List.nil_append] at hown2; obtain ⟨so2, sc2, hv2⟩ := rowC_slice hown2; rw [HLK.out] at hv2; subst hv2; have HO2 : Hid (w2.ownsRow W0.heap.size 49 3 (.slice so2 k sc2) (l.take k).length (flatC (l.take k))) := hown2; have HB2 : Hid (RowKit.Below W0.heap.size W0 w2) := below_grown HBW.out (World.ownsRow_nil _ _ _ _) hgr2 HBW.out.size; obtain ⟨hbox2, _, hA2⟩ := HK.out w2 HB2.out; obtain ⟨u0, u1, u2⟩ : w2.cell? ⟨w.heap.size, 0, none⟩ = some (.int .i64 a0) ∧ w2.cell? ⟨w.heap.size, 1, none⟩ = some (.int .i64 a1) ∧ w2.cell? ⟨w.heap.size, 2, none⟩ = some (.int .i64 a2) := (by simp [World.cell?, hbox2]); have hwl2 : w.heap.size < w2.heap.size := lt_of_get hbox2; obtain ⟨b', off', e', _, s0, s1, s2⟩ := hA2.at HX.out; cases e'; clear hown2 hgr2 hbox2 hA2)
              go_quiet (fail)
              go_wp2_with (at_builtin; first | (refine wpList_append_arcs rfl _ _ rfl W0.heap.size (.slice so2 k sc2) (l.take k) rfl (rowC_keep HO2.out (below_dalloc w2 _ _)) (some ⟨w2.heap.size, 0, none⟩) 1 [(a0, a1, a2)] rfl (arcs_one (w2.drewN _) (a0, a1, a2) 49) (fun e => by cases e) (by simp only [HLK.out, List.length_cons, List.length_nil]; omega) (Nat.le_trans HB2.out.size (below_dalloc w2 _ _).size) ?_; intro v3 w3 hown3 hgr3; obtain ⟨so3, sc3, hv3⟩ := rowC_slice hown3; have hv3' : v3 = .slice so3 (k + 1) sc3 := (by rw [hv3, List.length_append, HLK.out]; rfl); clear hv3; subst hv3'; have HO3 : Hid (w3.ownsRow W0.heap.size 49 3 (.slice so3 (k + 1) sc3) (l.take k ++ [(a0, a1, a2)]).length (flatC (l.take k ++ [(a0, a1, a2)]))) := hown3; have HB3 : Hid (RowKit.Below W0.heap.size W0 w3) := below_grown (HB2.out.trans ((below_dalloc w2 _ _).mono HB2.out.size)) (rowC_keep HO2.out (below_dalloc w2 _ _)) hgr3 (Nat.le_trans HB2.out.size (below_dalloc w2 _ _).size); clear hown3 hgr3 u0 u1 u2 hwl2 s0 s1 s2) | (refine wpList_append_arcs rfl _ _ rfl W0.heap.size (.slice so3 (k + 1) sc3) (l.take k ++ [(a0, a1, a2)]) rfl HO3.out fo (lc - k) (l.drop k) (by rw [HLD.out]; rfl) (by rw [HLD.out]; exact HFA.out _ l rfl (HK.out _ HB3.out).2.2) HFN.out (by simp only [List.length_append, HLK.out, HLD.out, List.length_cons, List.length_nil]; omega) HB3.out.size ?_; intro v4 w4 hown4 hgr4; have HO4 : Hid (w4.ownsRow W0.heap.size 49 3 v4 (l.take k ++ [(a0, a1, a2)] ++ l.drop k).length (flatC (l.take k ++ [(a0, a1, a2)] ++ l.drop k))) := hown4; have HB4 : Hid (RowKit.Below W0.heap.size W0 w4) := below_grown HB3.out HO3.out hgr4 HB3.out.size; clear hown4 hgr4))
              go_wp2
              go_ret
              refine ⟨_, rfl, ?_, (HK.out w4 HB4.out).2.1⟩
              have h := HO4.out
              rw [HSQ.out, ← HS0.out]
              exact h
    · obtain rfl : k = k0 := by omega
      have HBW : Hid (∀ q, RowKit.Below W0.heap.size W0 (wr.drewN q)) := fun q => ⟨HB.out.os, HB.out.tape, HB.out.output, HB.out.size, HB.out.block⟩
      have b1 : ¬ (k : Int) < (l.length : Int) := by omega
      have HSQ : Hid (putA l (a0, a1, a2) = l.take k ++ [(a0, a1, a2)] ++ l.drop k) := by
        rcases HSP.out with ⟨_, h⟩ | ⟨b, hb, _⟩
        · exact h
        · exact absurd (List.getElem?_eq_some_iff.1 hb).1 hlt
      clear HSP HLE HB hA
      go_wp2_with fail
      go_quiet (fail)
      have hto := fun wx => HCU.out.to k hk0 wx
      obtain ⟨fo, hfr, hfn, hfa⟩ := HCU.out.from k hk0
      have HFA : Hid (type_of% hfa) := hfa
      have HLK : Hid ((l.take k).length = k) := by show _ = _; rw [List.length_take]; omega
      have HLD : Hid ((l.drop k).length = l.length - k) := List.length_drop
      have HFN : Hid (fo = none → lc - k = 0) := hfn
      clear hfa hfn
      go_wp2_with (at_builtin; refine wpList_append_arcs rfl _ _ rfl W0.heap.size (.slice none 0 0) [] rfl (World.ownsRow_nil _ _ _ _) lo lc (l.take k) (by rw [HLK.out]; rfl) (by rw [HLK.out]; exact arcs_take (HK.out _ (HBW.out _)).2.2 k hk0) HCU.out.le.2 (by rw [HLK.out]; simp; omega) (HBW.out 0).size ?_; intro v2 w2 hown2 hgr2; rw [List.nil_append] at hown2; obtain ⟨so2, sc2, hv2⟩ := rowC_slice hown2; rw [HLK.out] at hv2; subst hv2; have HO2 : Hid (w2.ownsRow W0.heap.size 49 3 (.slice so2 k sc2) (l.take k).length (flatC (l.take k))) := hown2; have HB2 : Hid (RowKit.Below W0.heap.size W0 w2) := below_grown (HBW.out _) (World.ownsRow_nil _ _ _ _) hgr2 (HBW.out 0).size; obtain ⟨hbox2, _, hA2⟩ := HK.out w2 HB2.out; obtain ⟨u0, u1, u2⟩ : w2.cell? ⟨w.heap.size, 0, none⟩ = some (.int .i64 a0) ∧ w2.cell? ⟨w.heap.size, 1, none⟩ = some (.int .i64 a1) ∧ w2.cell? ⟨w.heap.size, 2, none⟩ = some (.int .i64 a2) := (by simp [World.cell?, hbox2]); have hwl2 : w.heap.size < w2.heap.size := lt_of_get hbox2; clear hown2 hgr2 hbox2 t0 t1 t2 hA2)
      go_quiet (fail)
      go_wp2_with (at_builtin; first | (refine wpList_append_arcs rfl _ _ rfl W0.heap.size (.slice so2 k sc2) (l.take k) rfl (rowC_keep HO2.out (below_dalloc w2 _ _)) (some ⟨w2.heap.size, 0, none⟩) 1 [(a0, a1, a2)] rfl (arcs_one (w2.drewN _) (a0, a1, a2) 49) (fun e => by cases e) (by simp only [HLK.out, List.length_cons, List.length_nil]; omega) (Nat.le_trans HB2.out.size (below_dalloc w2 _ _).size) ?_; intro v3 w3 hown3 hgr3; obtain ⟨so3, sc3, hv3⟩ := rowC_slice hown3; have hv3' : v3 = .slice so3 (k + 1) sc3 := (by rw [hv3, List.length_append, HLK.out]; rfl); clear hv3; subst hv3'; have HO3 : Hid (w3.ownsRow W0.heap.size 49 3 (.slice so3 (k + 1) sc3) (l.take k ++ [(a0, a1, a2)]).length (flatC (l.take k ++ [(a0, a1, a2)]))) := hown3; have HB3 : Hid (RowKit.Below W0.heap.size W0 w3) := below_grown (HB2.out.trans ((below_dalloc w2 _ _).mono HB2.out.size)) (rowC_keep HO2.out (below_dalloc w2 _ _)) hgr3 (Nat.le_trans HB2.out.size (below_dalloc w2 _ _).size); clear hown3 hgr3 u0 u1 u2 hwl2) | (refine wpList_append_arcs rfl _ _ rfl W0.heap.size (.slice so3 (k + 1) sc3) (l.take k ++ [(a0, a1, a2)]) rfl HO3.out fo (lc - k) (l.drop k) (by rw [HLD.out]; rfl) (by rw [HLD.out]; exact HFA.out _ l rfl (HK.out _ HB3.out).2.2) HFN.out (by simp only [List.length_append, HLK.out, HLD.out, List.length_cons, List.length_nil]; omega) HB3.out.size ?_; intro v4 w4 hown4 hgr4; have HO4 : Hid (w4.ownsRow W0.heap.size 49 3 v4 (l.take k ++ [(a0, a1, a2)] ++ l.drop k).length (flatC (l.take k ++ [(a0, a1, a2)] ++ l.drop k))) := hown4; have HB4 : Hid (RowKit.Below W0.heap.size W0 w4) := below_grown HB3.out HO3.out hgr4 HB3.out.size; clear hown4 hgr4))
      go_wp2
      go_ret
      refine ⟨_, rfl, ?_, (HK.out w4 HB4.out).2.1⟩
      have h := HO4.out
      rw [HSQ.out, ← HS0.out]
      exact h
end Go.Proofs.Ytkehpmbnbknpfaa

namespace Go.Proofs.Ytkehpmbnbknpfaa
open Go.RowKit Go.Extern Go.Sort Go.Shelf

attribute [local go_sem] Oper.semAt_some

/-- a list in new memory. -/
def NewA (B : Nat) (v : Value) : Prop := ∀ b off n c, v = .slice (some ⟨b, off, none⟩) n c → B ≤ b
theorem newA_nil (B n c : Nat) : NewA B (.slice none n c) := fun b off m d e => by cases e
theorem newA_of {B n c : Nat} {so : Option Addr} (h : ∀ a, so = some a → B ≤ a.block) : NewA B (.slice so n c) := fun b off m d e => by
  injection e with e1
  exact h _ e1
theorem NewA.base {B B' : Nat} {v : Value} (h : NewA B' v) (hb : B ≤ B') : NewA B v := fun b off n c e => Nat.le_trans hb (h b off n c e)
theorem rowA_slice {w : World} {base n : Nat} {xs : List Value} {v : Value} (h : w.ownsRow base 49 3 v n xs) : ∃ ao cap, v = .slice ao n cap := by
  rcases h.2 with ⟨h, h'⟩ | ⟨g, cap, cur, h, _⟩
  · exact ⟨none, 0, by rw [h']; exact h⟩
  · exact ⟨_, cap, h⟩
theorem rowA_keep {w w' : World} {base n : Nat} {xs : List Value} {v : Value} (h : w.ownsRow base 49 3 v n xs) (hk : ∀ g, base ≤ g → g < w.heap.size → w'.heap[g]? = w.heap[g]?) : w'.ownsRow base 49 3 v n xs := by
  obtain ⟨h1, h2⟩ := h
  refine ⟨h1, ?_⟩
  rcases h2 with h2 | ⟨g, cap, cur, e, hb, hh, r⟩
  · exact Or.inl h2
  · exact Or.inr ⟨g, cap, cur, e, hb, (hk g hb (lt_of_get hh)).trans hh, r⟩
theorem arcs_of_row {w : World} {base : Nat} {v : Value} {l : List (Int × Int × Int)} (h : w.ownsRow base 49 3 v l.length (flatA l)) : HasArcs w v l := by
  rcases h.2 with ⟨e, h0⟩ | ⟨g, cap, cur, rfl, hg, hh, _⟩
  · have : l = [] := List.eq_nil_of_length_eq_zero h0
    subst this
    exact ⟨none, 0, e, fun j p hj => by simp at hj⟩
  · refine ⟨_, cap, rfl, fun j a hj => ⟨g, 0, rfl, lt_of_get hh, ?_⟩⟩
    have hlt := (List.getElem?_eq_some_iff.1 hj).1
    have c := fun c (hc : c < 3) => (h.cellAt (j * 3 + c) (by omega)).trans (flatA_get l j a hj c hc)
    rw [Nat.zero_add]
    exact ⟨c 0 (by omega), c 1 (by omega), c 2 (by omega)⟩
/-- what holds at each round. -/
structure RRI (w : World) (N : Int) (ao : Option Addr) (cap : Nat) (xs : List (Int × Int × Int)) (l : List (Int × Int × Int)) (sv : Value) (wr : World) : Prop where
  row : wr.ownsRow (w.heap.size + 3) 49 3 sv l.length (flatA l)
  box : wr.heap[w.heap.size]? = some (.cells #[.int .i64 N, .slice ao xs.length cap] 35)
  res : wr.heap[w.heap.size + 1]? = some (.cells #[.int .i64 0, .slice none 0 0] 35)
  c : wr.heap[w.heap.size + 2]? = some (.cells #[.int .i64 N, sv] 35)
  below : Below w.heap.size w wr
theorem RRI.keep {w : World} {N : Int} {ao : Option Addr} {cap : Nat} {xs l : List (Int × Int × Int)} {sv : Value} {wr wn : World} (h : RRI w N ao cap xs l sv wr) (hb : Below wr.heap.size wr wn) : RRI w N ao cap xs l sv wn :=
  ⟨rowA_keep h.row (fun g _ hg => hb.block g hg), (hb.block _ (lt_of_get h.box)).trans h.box, (hb.block _ (lt_of_get h.res)).trans h.res, (hb.block _ (lt_of_get h.c)).trans h.c, h.below.trans (hb.mono h.below.size)⟩

end Go.Proofs.Ytkehpmbnbknpfaa

namespace Go.Proofs.Ytkehpmbnbknpfaa
open Go.RowKit Go.Extern Go.Sort Go.Shelf

attribute [local go_sem] Oper.semAt_some

theorem normA_snoc {xs : List (Int × Int × Int)} {k : Nat} {a : Int × Int × Int} (h : xs[k]? = some a) : normA (xs.take (k + 1)) = if a.1 == a.2.1 then normA (xs.take k) else putA (normA (xs.take k)) a := by
  unfold normA
  rw [kept_snoc h, List.foldl_append]
  split <;> rfl
theorem put_len : ∀ (l : List (Int × Int × Int)) (a : Int × Int × Int), 0 < (putA l a).length ∧ (putA l a).length ≤ l.length + 1
  | [], a => ⟨by simp [putA], by simp [putA]⟩
  | b :: r, a => by
    have ih := put_len r a
    unfold putA
    split
    · simp; omega
    · split <;> simp
theorem normA_take_len {xs : List (Int × Int × Int)} (k : Nat) : (normA (xs.take k)).length ≤ k := by
  have h := (normA_norm (xs.take k))
  have : (normA (xs.take k)).length ≤ (kept (xs.take k)).length := by
    unfold normA
    have gen : ∀ (r l : List (Int × Int × Int)), (r.foldl putA l).length ≤ l.length + r.length := by
      intro r
      induction r with
      | nil => intro l; simp
      | cons a r ih => intro l; simp only [List.foldl_cons, List.length_cons]; have := ih (putA l a); have := (put_len l a).2; omega
    simpa using gen (kept (xs.take k)) []
  exact Nat.le_trans this (Nat.le_trans (kept_le _) (by rw [List.length_take]; omega))
theorem rowC_base {w : World} {base base' n : Nat} {xs : List Value} {v : Value} (h : w.ownsRow base' 49 3 v n xs) (hb : base ≤ base') : w.ownsRow base 49 3 v n xs := by
  obtain ⟨h1, h2⟩ := h
  refine ⟨h1, ?_⟩
  rcases h2 with h2 | ⟨g, cap, cur, e, hg, r⟩
  · exact Or.inl h2
  · exact Or.inr ⟨g, cap, cur, e, Nat.le_trans hb hg, r⟩
theorem cut_of_row {w : World} {base n cap : Nat} {xs : List Value} {so : Option Addr} (h : w.ownsRow base 49 3 (.slice so n cap) n xs) (h0 : n = 0 → so = none ∧ cap = 0) : Cut so n cap := by
  rcases h.2 with ⟨e, hn⟩ | ⟨g, cap', cur, e, _, _, hle, _⟩
  · exact Or.inl ⟨(h0 hn).1, hn, (h0 hn).2⟩
  · cases e
    rcases Nat.eq_zero_or_pos n with hn | hn
    · exact absurd (h0 hn).1 (by simp)
    · exact Or.inr ⟨g, 0, rfl, hn, hle⟩
/-- what holds at each round. -/
structure ROI (w : World) (N : Int) (ao : Option Addr) (cap : Nat) (xs : List (Int × Int × Int)) (l : List (Int × Int × Int)) (so : Option Addr) (sc : Nat) (wr : World) : Prop where
  row : wr.ownsRow (w.heap.size + 3) 49 3 (.slice so l.length sc) l.length (flatC l)
  cut : Cut so l.length sc
  box : wr.heap[w.heap.size]? = some (.cells #[.int .i64 N, .slice ao xs.length cap] 35)
  res : wr.heap[w.heap.size + 1]? = some (.cells #[.int .i64 0, .slice none 0 0] 35)
  c : wr.heap[w.heap.size + 2]? = some (.cells #[.int .i64 N, .slice so l.length sc] 35)
  below : RowKit.Below w.heap.size w wr
theorem ROI.keep {w : World} {N : Int} {ao : Option Addr} {cap : Nat} {xs l : List (Int × Int × Int)} {so : Option Addr} {sc : Nat} {wr wn : World} (h : ROI w N ao cap xs l so sc wr) (hb : RowKit.Below wr.heap.size wr wn) : ROI w N ao cap xs l so sc wn :=
  ⟨rowC_keep h.row hb, h.cut, (hb.block _ (lt_of_get h.box)).trans h.box, (hb.block _ (lt_of_get h.res)).trans h.res, (hb.block _ (lt_of_get h.c)).trans h.c, h.below.trans (hb.mono h.below.size)⟩
theorem ROI.put {w : World} {N : Int} {ao : Option Addr} {cap : Nat} {xs l l' : List (Int × Int × Int)} {so so' : Option Addr} {sc sc' base : Nat} {wr : World} (h : ROI w N ao cap xs l so sc wr) (hr : wr.ownsRow base 49 3 (.slice so' l'.length sc') l'.length (flatC l')) (hbase : w.heap.size + 3 ≤ base) (hl : 0 < l'.length) : ROI w N ao cap xs l' so' sc' (wr.setCell ⟨w.heap.size + 2, 1, none⟩ (.slice so' l'.length sc')) := by
  refine ⟨rowC_far (rowC_base hr hbase) (fun g hg _ => heap_setCell_other _ _ _ _ (by show g ≠ w.heap.size + 2; omega)), cut_of_row hr (fun e => by omega), ?_, ?_, ?_, h.below.setCell (p := ⟨w.heap.size + 2, 1, none⟩) (by show w.heap.size ≤ w.heap.size + 2; omega) _⟩
  · rw [heap_setCell_other _ _ _ _ (by show w.heap.size ≠ w.heap.size + 2; omega)]; exact h.box
  · rw [heap_setCell_other _ _ _ _ (by show w.heap.size + 1 ≠ w.heap.size + 2; omega)]; exact h.res
  · simp only [World.setCell, Array.getElem?_modify]
    rw [if_pos True.intro, h.c]
    rfl

set_option maxRecDepth 100000 in
set_option maxHeartbeats 1000000 in
theorem refOf_calls (N : Int) (ao : Option Addr) (cap : Nat) (xs : List (Int × Int × Int)) (w : World) (hl : HasArcs w (.slice ao xs.length cap) xs) (hm : xs.length ≤ 262144) :
    Calls Try.prog 62 #[.agg #[.int .i64 N, .slice ao xs.length cap]] w fun e w' => ∃ lo lc, e = .returned (.agg #[.int .i64 N, .slice lo (normA xs).length lc]) ∧ HasArcs w' (.slice lo (normA xs).length lc) (normA xs) ∧ NewA w.heap.size (.slice lo (normA xs).length lc) ∧ RowKit.Below w.heap.size w w' := by
  obtain ⟨W0, hW0⟩ : ∃ W0, ((w.alloc (.cells #[.int .i64 N, .slice ao xs.length cap] 35)).alloc (.cells #[.int .i64 0, .slice none 0 0] 35)).alloc (.cells #[.int .i64 N, .slice none 0 0] 35) = W0 := ⟨_, rfl⟩
  have hB0 : RowKit.Below w.heap.size w W0 := by rw [← hW0]; exact (((RowKit.Below.refl _ w).alloc (Nat.le_refl _) _).alloc (by simp) _).alloc (by simp; omega) _
  have k0 : W0.heap[w.heap.size]? = some (.cells #[.int .i64 N, .slice ao xs.length cap] 35) := by rw [← hW0, RowKit.Below.heap_alloc _ _ _ (by simp; omega), RowKit.Below.heap_alloc _ _ _ (by simp)]; exact heap_new _ _
  have k1 : W0.heap[w.heap.size + 1]? = some (.cells #[.int .i64 0, .slice none 0 0] 35) := by
    rw [← hW0, RowKit.Below.heap_alloc _ _ _ (by simp)]
    have h := heap_new (w.alloc (.cells #[.int .i64 N, .slice ao xs.length cap] 35)) (.cells #[.int .i64 0, .slice none 0 0] 35)
    simpa using h
  have k2 : W0.heap[w.heap.size + 2]? = some (.cells #[.int .i64 N, .slice none 0 0] 35) := by
    have h := heap_new ((w.alloc (.cells #[.int .i64 N, .slice ao xs.length cap] 35)).alloc (.cells #[.int .i64 0, .slice none 0 0] 35)) (.cells #[.int .i64 N, .slice none 0 0] 35)
    rw [hW0] at h
    simpa using h
  have HW0 : Hid (((w.alloc (.cells #[.int .i64 N, .slice ao xs.length cap] 35)).alloc (.cells #[.int .i64 0, .slice none 0 0] 35)).alloc (.cells #[.int .i64 N, .slice none 0 0] 35) = W0) := hW0
  have HI0 : Hid (ROI w N ao cap xs [] none 0 W0) := ⟨World.ownsRow_nil _ _ _ _, Or.inl ⟨rfl, rfl, rfl⟩, k0, k1, k2, hB0⟩
  have HL : Hid (HasArcs w (.slice ao xs.length cap) xs) := hl
  clear hl k0 k1 k2 hB0 hW0
  go_enter Try.func62, Try.ntmps62
  go_wp2_with fail
  rw [HW0.out]
  go_loopw [12] (fun iv wr => ∃ (k : Nat) (so : Option Addr) (sc : Nat), k ≤ xs.length ∧ iv = .int .i64 k ∧ ROI w N ao cap xs (normA (xs.take k)) so sc wr) (fun iv _ => xs.length - (intOf iv).toNat)
  case atStart => exact ⟨0, none, 0, Nat.zero_le _, rfl, HI0.out⟩
  case round =>
    obtain ⟨k, so, sc, hk, rfl, hinv⟩ := hrel
    have HI : Hid (ROI w N ao cap xs (normA (xs.take k)) so sc wr) := hinv
    have hcx := hinv.c
    have hrx := hinv.res
    have hlc : w.heap.size + 1 + 1 < wr.heap.size := lt_of_get hcx
    have b0 : (0 : Int) ≤ k := by omega
    clear hinv
    by_cases hlt : k < xs.length
    · obtain ⟨a, ha⟩ : ∃ a, xs[k]? = some a := ⟨xs[k], List.getElem?_eq_getElem hlt⟩
      obtain ⟨b, off, hao, hbl, q0, q1, q2⟩ := HL.out.at ha
      subst hao
      have e0 := (HI.out.below.cell (p := ⟨b, off + k * 3, none⟩) hbl).trans q0
      have e1 := (HI.out.below.cell (p := ⟨b, off + k * 3 + 1, none⟩) hbl).trans q1
      have e2 := (HI.out.below.cell (p := ⟨b, off + k * 3 + 2, none⟩) hbl).trans q2
      have HSN : Hid (normA (xs.take (k + 1)) = if a.1 == a.2.1 then normA (xs.take k) else putA (normA (xs.take k)) a) := normA_snoc ha
      have HLN : Hid ((normA (xs.take k)).length ≤ k) := normA_take_len k
      have b1 : (k : Int) < (xs.length : Int) := by omega
      clear q0 q1 q2 ha
      obtain ⟨a0, a1, a2⟩ := a
      simp only at e0 e1 e2 HSN
      generalize normA (xs.take k) = l at *
      obtain ⟨W1, hW1⟩ : ∃ W1, wr.alloc (.cells #[.int .i64 a0, .int .i64 a1, .int .i64 a2] 49) = W1 := ⟨_, rfl⟩
      have HI1 : Hid (ROI w N (some ⟨b, off, none⟩) cap xs l so sc W1) := by rw [← hW1]; exact HI.out.keep ((RowKit.Below.refl _ _).alloc (Nat.le_refl _) _)
      have HW1 : Hid (wr.alloc (.cells #[.int .i64 a0, .int .i64 a1, .int .i64 a2] 49) = W1) := hW1
      obtain ⟨d0, d1, _, _⟩ : wr.cell? ⟨w.heap.size + 1 + 1, 0, none⟩ = some (.int .i64 N) ∧ wr.cell? ⟨w.heap.size + 1 + 1, 1, none⟩ = some (.slice so l.length sc) ∧ wr.frozen? ⟨w.heap.size + 1 + 1, 0, none⟩ = false ∧ wr.frozen? ⟨w.heap.size + 1 + 1, 1, none⟩ = false := cell_two hcx
      by_cases hab : a0 = a1
      · have HE : Hid (normA (xs.take (k + 1)) = l) := by have h := HSN.out; rw [if_pos (by simpa using hab)] at h; exact h
        clear HSN hcx hrx hW1
        subst hab
        go_wp2
        rw [HW1.out]
        go_roundw
        case rel => exact ⟨k + 1, so, sc, by omega, by go_num, by rw [HE.out]; exact HI1.out⟩
        case measure => simp [intOf]; omega
      · have HE : Hid (normA (xs.take (k + 1)) = putA l (a0, a1, a2)) := by have h := HSN.out; rw [if_neg (by simpa using hab)] at h; exact h
        have HPU : Hid (type_of% (put_calls (a0, a1, a2) so sc l W1 (arcs_of_rowC HI1.out.row) HI1.out.cut (by have := HLN.out; omega))) := put_calls (a0, a1, a2) so sc l W1 (arcs_of_rowC HI1.out.row) HI1.out.cut (by have := HLN.out; omega)
        unfold arcV at HPU
        simp only at HPU
        clear HSN hcx hrx hW1
        go_wp2_with fail
        rw [HW1.out]
        refine HPU.out.mono ?_
        rintro e w5 ⟨v, rfl, hown5, hb5⟩
        obtain ⟨so', sc', hv⟩ := rowC_slice hown5
        subst hv
        have HI5 : Hid (ROI w N (some ⟨b, off, none⟩) cap xs l so sc w5) := HI1.out.keep hb5
        have HI6 : Hid (ROI w N (some ⟨b, off, none⟩) cap xs (putA l (a0, a1, a2)) so' sc' (w5.setCell ⟨w.heap.size + 1 + 1, 1, none⟩ (.slice so' (putA l (a0, a1, a2)).length sc'))) := HI5.out.put hown5 (by have := lt_of_get HI1.out.c; omega) (put_len l _).1
        obtain ⟨f0, f1, f2, f3⟩ : w5.cell? ⟨w.heap.size + 1 + 1, 0, none⟩ = some (.int .i64 N) ∧ w5.cell? ⟨w.heap.size + 1 + 1, 1, none⟩ = some (.slice so l.length sc) ∧ w5.frozen? ⟨w.heap.size + 1 + 1, 0, none⟩ = false ∧ w5.frozen? ⟨w.heap.size + 1 + 1, 1, none⟩ = false := cell_two HI5.out.c
        clear hown5 hb5 d0 d1 e0 e1 e2
        go_wp2
        go_roundw
        case rel => exact ⟨k + 1, so', sc', by omega, by go_num, by rw [HE.out]; exact HI6.out⟩
        case measure => simp [intOf]; omega
    · obtain rfl : k = xs.length := by omega
      rw [List.take_length] at HI hcx
      obtain ⟨d0, d1, _, _⟩ : wr.cell? ⟨w.heap.size + 1 + 1, 0, none⟩ = some (.int .i64 N) ∧ wr.cell? ⟨w.heap.size + 1 + 1, 1, none⟩ = some (.slice so (normA xs).length sc) ∧ wr.frozen? ⟨w.heap.size + 1 + 1, 0, none⟩ = false ∧ wr.frozen? ⟨w.heap.size + 1 + 1, 1, none⟩ = false := cell_two hcx
      obtain ⟨b0', b1', y0, y1⟩ := cell_two hrx
      have HA : Hid (HasArcs wr (.slice so (normA xs).length sc) (normA xs)) := arcs_of_rowC HI.out.row
      have HNR : Hid (∀ a, so = some a → w.heap.size + 3 ≤ a.block) := fun a ha => by
        rcases HI.out.row.2 with ⟨h, _⟩ | ⟨g, cap', cur, h, hg, _⟩
        · injection h with h1; rw [h1] at ha; cases ha
        · injection h with h1; rw [h1] at ha; cases ha; exact hg
      clear hcx hrx
      go_wp2
      refine bodyPost_ret (v := .agg #[.int .i64 N, .slice so (normA xs).length sc]) (by simp [results, Try.results62, go_sem, b0', b1']) rfl ⟨so, sc, rfl, ?_, newA_of fun a ha => by have := HNR.out a ha; omega, ?_⟩
      · obtain ⟨ao', cap', e, hc⟩ := HA.out
        refine ⟨ao', cap', e, fun j a hj => ?_⟩
        obtain ⟨b', off', ea, hl', h0, h1, h2⟩ := hc j a hj
        injection e with e1
        have hb' := HNR.out ⟨b', off', none⟩ (e1.trans ea)
        refine ⟨b', off', ea, by simp; exact hl', ?_, ?_, ?_⟩
        · rw [World.cell?_setCell_other _ _ _ _ (by intro e; have := congrArg Addr.block e; simp at this hb'; omega), World.cell?_setCell_other _ _ _ _ (by intro e; have := congrArg Addr.block e; simp at this hb'; omega)]; exact h0
        · rw [World.cell?_setCell_other _ _ _ _ (by intro e; have := congrArg Addr.block e; simp at this hb'; omega), World.cell?_setCell_other _ _ _ _ (by intro e; have := congrArg Addr.block e; simp at this hb'; omega)]; exact h1
        · rw [World.cell?_setCell_other _ _ _ _ (by intro e; have := congrArg Addr.block e; simp at this hb'; omega), World.cell?_setCell_other _ _ _ _ (by intro e; have := congrArg Addr.block e; simp at this hb'; omega)]; exact h2
      · exact (HI.out.below.setCell (p := ⟨w.heap.size + 1, 0, none⟩) (by simp) _).setCell (p := ⟨w.heap.size + 1, 1, none⟩) (by simp) _
end Go.Proofs.Ytkehpmbnbknpfaa
