/- The contract of slices.SortFunc at arcs, as the library proves it over any program, laid at this translation's numbers. slices.SortFunc with normal's closure: the row of arcs is sorted by ends, then by weight; nothing else turns. normal.Of at a right graph, whatever its compacting makes: the arcs that are no loops, sorted, compacted. What compacting keeps of a row of arcs, and the row in memory while it is compacted. slices.CompactFunc with normal's closure at every row of arcs. -/
import Derived.Shelf.SlSortCmp.WholeK
import Derived.Shelf.SlGeneric
import Derived.Ground.SlsfProg
import Derived.Test.YtefcmpdnlbpjpaaProg
import Derived.Test.YtefcmpdnlbpjpaaCheck
import Derived.Deep.DeepAppendRoom
import Derived.OwnWalk
import Derived.Deep.RegionHeld3
namespace Go.Proofs
open Go.Shelf
def Try.sortArc_ren : Go.Shelf.Ren := ⟨fun | 6 => 34 | 15 => 59 | 14 => 58 | 28 => 80 | 29 => 81 | 20 => 72 | 21 => 73 | 22 => 74 | 23 => 75 | 24 => 76 | 25 => 77 | 26 => 78 | 27 => 79 | 46 => 85 | 47 => 86 | 48 => 87 | 49 => 88 | 50 => 89 | 57 => 92 | n => n, fun | 22 => 22 | 24 => 33 | 25 => 86 | 3 => 3 | 39 => 123 | 0 => 0 | 53 => 104 | 55 => 34 | 4 => 4 | 46 => 140 | 45 => 139 | 50 => 79 | 5 => 5 | 9 => 9 | 66 => 149 | 70 => 153 | 76 => 156 | 77 => 157 | n => n, fun | n => n⟩
theorem Try.sortArc : Go.Proofs.SlLaysF0.n6 Try.prog Try.sortArc_ren := {
  mixed := by kernel_rfl
  f6 := ⟨Try.f34.name, by decide, Try.func34.trans (congrArg some (by kernel_rfl))⟩
  f14 := ⟨Try.f58.name, by decide, Try.func58.trans (congrArg some (by kernel_rfl))⟩
  f15 := Try.func59.trans (congrArg some (by kernel_rfl))
  f20 := ⟨Try.f72.name, by decide, Try.func72.trans (congrArg some (by kernel_rfl))⟩
  f21 := ⟨Try.f73.name, by decide, Try.func73.trans (congrArg some (by kernel_rfl))⟩
  f22 := ⟨Try.f74.name, by decide, Try.func74.trans (congrArg some (by kernel_rfl))⟩
  f23 := ⟨Try.f75.name, by decide, Try.func75.trans (congrArg some (by kernel_rfl))⟩
  f24 := ⟨Try.f76.name, by decide, Try.func76.trans (congrArg some (by kernel_rfl))⟩
  f25 := ⟨Try.f77.name, by decide, Try.func77.trans (congrArg some (by kernel_rfl))⟩
  f26 := ⟨Try.f78.name, by decide, Try.func78.trans (congrArg some (by kernel_rfl))⟩
  f27 := ⟨Try.f79.name, by decide, Try.func79.trans (congrArg some (by kernel_rfl))⟩
  f28 := Try.func80.trans (congrArg some (by kernel_rfl))
  f29 := Try.func81.trans (congrArg some (by kernel_rfl))
  f46 := ⟨Try.f85.name, by decide, Try.func85.trans (congrArg some (by kernel_rfl))⟩
  f47 := Try.func86.trans (congrArg some (by kernel_rfl))
  f48 := Try.func87.trans (congrArg some (by kernel_rfl))
  f49 := ⟨Try.f88.name, by decide, Try.func88.trans (congrArg some (by kernel_rfl))⟩
  f50 := ⟨Try.f89.name, by decide, Try.func89.trans (congrArg some (by kernel_rfl))⟩
  f57 := ⟨Try.f92.name, by decide, Try.func92.trans (congrArg some (by kernel_rfl))⟩
  t0 := Try.underlying0
  a0 := Try.isAgg0
  z0 := Try.sizeOf0
  v0 := Try.zeroValue0
  t3 := Try.underlying3
  a3 := Try.isAgg3
  z3 := Try.sizeOf3
  v3 := Try.zeroValue3
  t4 := Try.underlying4
  a4 := Try.isAgg4
  z4 := Try.sizeOf4
  v4 := Try.zeroValue4
  t5 := Try.underlying5
  a5 := Try.isAgg5
  z5 := Try.sizeOf5
  v5 := Try.zeroValue5
  t9 := Try.underlying9
  a9 := Try.isAgg9
  z9 := Try.sizeOf9
  v9 := Try.zeroValue9
  t22 := Try.underlying22
  a22 := Try.isAgg22
  z22 := Try.sizeOf22
  v22 := Try.zeroValue22
  t25 := Try.underlying86
  a25 := Try.isAgg86
  z25 := Try.sizeOf86
  v25 := Try.zeroValue86
  t39 := Try.underlying123
  a39 := Try.isAgg123
  z39 := Try.sizeOf123
  v39 := Try.zeroValue123
  t45 := Try.underlying139
  a45 := Try.isAgg139
  z45 := Try.sizeOf139
  v45 := Try.zeroValue139
  t46 := Try.underlying140
  a46 := Try.isAgg140
  z46 := Try.sizeOf140
  v46 := Try.zeroValue140
  t50 := Try.underlying79
  a50 := Try.isAgg79
  z50 := Try.sizeOf79
  v50 := Try.zeroValue79
  t53 := Try.underlying104
  a53 := Try.isAgg104
  z53 := Try.sizeOf104
  v53 := Try.zeroValue104
  t55 := Try.underlying34
  a55 := Try.isAgg34
  z55 := Try.sizeOf34
  v55 := Try.zeroValue34
  t66 := Try.underlying149
  a66 := Try.isAgg149
  z66 := Try.sizeOf149
  v66 := Try.zeroValue149
  t70 := Try.underlying153
  a70 := Try.isAgg153
  z70 := Try.sizeOf153
  v70 := Try.zeroValue153
  t76 := Try.underlying156
  a76 := Try.isAgg156
  z76 := Try.sizeOf156
  v76 := Try.zeroValue156
  t77 := Try.underlying157
  a77 := Try.isAgg157
  z77 := Try.sizeOf157
  v77 := Try.zeroValue157 }
end Go.Proofs

namespace Go.Proofs.Ytefcmpdnlbpjpaa
open Go.RowKit Go.Extern Go.Sort Go.Shelf

/-- an arc's three cells. -/
def encA (x : Int × Int × Int) : List Value := [.int .i64 x.1, .int .i64 x.2.1, .int .i64 x.2.2]
theorem ltA (x y : Int × Int × Int) : ltOf arcI x y = decide (x.1 < y.1 ∨ x.1 = y.1 ∧ (x.2.1 < y.2.1 ∨ x.2.1 = y.2.1 ∧ x.2.2 < y.2.2)) := by
  unfold ltOf arcI endsI orI cmpI
  obtain ⟨x0, x1, x2⟩ := x
  obtain ⟨y0, y1, y2⟩ := y
  simp only
  rw [Bool.eq_iff_iff, decide_eq_true_iff, decide_eq_true_iff]
  by_cases h0 : x0 < y0 <;> by_cases h0' : y0 < x0 <;> by_cases h1 : x1 < y1 <;> by_cases h1' : y1 < x1 <;> by_cases h2 : x2 < y2 <;> by_cases h2' : y2 < x2 <;> simp [h0, h0', h1, h1', h2, h2'] <;> omega
theorem swoA : SWO (ltOf arcI) where
  irrefl x := by rw [ltA]; simp
  trans x y z h1 h2 := by rw [ltA] at *; simp at *; omega
  ntrans x y z h1 h2 := by rw [ltA] at *; simp at *; omega
theorem cmpLaysA (blk off size : Nat) (w : World) : CmpLays Try.prog 35 #[] encA 3 arcI blk off size w := fun m os dk _ x y => by
  refine (sortCmp_calls x y _).mono ?_
  rintro e w' ⟨rfl, q, os', rfl⟩
  exact ⟨rfl, q, os', rfl⟩

theorem sort_calls (blk cap : Nat) (d : Array (Int × Int × Int)) (w : World) (hH : HoldsK encA 3 w blk 0 d) (hblk : blk < w.heap.size) (hsz : d.size < 4611686018427387904) :
    Calls Try.prog 34 #[.slice (some ⟨blk, 0, none⟩) d.size cap, .func (.func 35) #[] #[]] w fun e w' => e = .returned (.tuple #[]) ∧ HoldsK encA 3 w' blk 0 (pdq (ltOf arcI) d 0 d.size (Lib.bitLen d.size) true true) ∧ Touch blk w w' := by
  have hcon := AnyQ.slices_SortFunc_eq Try.sortArc 3 Try.isAgg33 Try.sizeOf33 encA (fun _ => rfl) (fun x v hv => by simp [encA] at hv; rcases hv with rfl | rfl | rfl <;> rfl) arcI swoA 35 #[] blk 0 cap d w (enters_of Try.func35 (by kernel_rfl) rfl) (cmpLaysA blk 0 d.size w) hH hblk hsz
  refine hcon.mono ?_
  rintro e w' ⟨rfl, n, os, rfl⟩
  have hp := (pdq_sorts (ltOf arcI) swoA d 0 d.size (Lib.bitLen d.size) true true (Nat.zero_le _) (Nat.le_refl _) (Or.inl rfl)).1
  generalize pdq (ltOf arcI) d 0 d.size (Lib.bitLen d.size) true true = d' at *
  have hs : d'.size = d.size := hp.1
  refine ⟨rfl, holdsK_grow encA 3 (putRowK encA 3 (Sort.ahead w n) blk 0 d') os blk 0 d' (by simp [putRowK, Sort.ahead]; exact hblk) (holdsK_putRowK encA 3 (Sort.ahead w n) blk 0 d d' (holdsK_ahead encA 3 w n blk 0 d hH) hs), rfl, rfl, rfl, ?_, fun k hk hne => ?_⟩
  · simp [sortWorldK, putRowK, Sort.ahead]
  · unfold sortWorldK
    rw [heap_grow_old _ _ (by simp [putRowK, Sort.ahead]; exact hk)]
    simp only [putRowK, putRow, mapBlock, Sort.ahead, Array.getElem?_modify]
    rw [if_neg (fun e => hne e.symm)]
end Go.Proofs.Ytefcmpdnlbpjpaa

namespace Go.Proofs.Ytefcmpdnlbpjpaa
open Go.RowKit Go.Extern Go.Sort Go.Shelf

attribute [local go_sem] Oper.semAt_some

theorem Try.info51 : (Try.prog.info? 33).map (fun i => (i.zero, i.size, i.bytes)) = some (some (.agg #[.int .i64 0, .int .i64 0, .int .i64 0]), 3, 24) := by kernel_rfl
/-- the cells of arcs. -/
def flatA (l : List (Int × Int × Int)) : List Value := l.flatMap encA
theorem flatA_len (l : List (Int × Int × Int)) : (flatA l).length = l.length * 3 := by
  induction l with
  | nil => rfl
  | cons a r ih => simp only [flatA, List.flatMap_cons, List.length_append, List.length_cons] at *; rw [ih]; simp [encA]; omega
theorem flatA_append (l r : List (Int × Int × Int)) : flatA (l ++ r) = flatA l ++ flatA r := by simp [flatA]
theorem flatA_get : ∀ (l : List (Int × Int × Int)) (i : Nat) (a : Int × Int × Int), l[i]? = some a → ∀ c, c < 3 → (flatA l)[i * 3 + c]? = some (encA a)[c]!
  | [], i, a, h, c, _ => by simp at h
  | b :: r, 0, a, h, c, hc => by
    simp at h
    subst h
    have e : flatA (b :: r) = encA b ++ flatA r := by simp [flatA]
    rw [e, List.getElem?_append_left (by simp [encA]; omega)]
    rcases (show c = 0 ∨ c = 1 ∨ c = 2 by omega) with rfl | rfl | rfl <;> simp [encA]
  | b :: r, i + 1, a, h, c, hc => by
    have e : flatA (b :: r) = encA b ++ flatA r := by simp [flatA]
    rw [e, List.getElem?_append_right (by simp [encA]; omega)]
    have e2 : (i + 1) * 3 + c - (encA b).length = i * 3 + c := by simp [encA]; omega
    rw [e2]
    exact flatA_get r i a (by simpa using h) c hc
theorem holds_of_row {w : World} {base g n cap : Nat} {l : List (Int × Int × Int)} (hn : n = l.length) (h : w.ownsRow base 33 3 (.slice (some ⟨g, 0, none⟩) n cap) n (flatA l)) : HoldsK encA 3 w g 0 l.toArray := by
  subst hn
  rcases h.2 with ⟨e, _⟩ | ⟨g', cap', cur, e, _, hh, _, _, _, htk⟩
  · cases e
  · cases e
    intro j hj
    rw [size_flatK] at hj
    simp only [List.size_toArray] at hj
    have hi : j / 3 < l.length := by omega
    obtain ⟨a, ha⟩ : ∃ a, l[j / 3]? = some a := ⟨l[j / 3], List.getElem?_eq_getElem hi⟩
    have hc : w.cell? ⟨g, j, none⟩ = some (encA a)[j % 3]! := by
      have hg := flatA_get l (j / 3) a ha (j % 3) (by omega)
      rw [show j / 3 * 3 + j % 3 = j by omega] at hg
      rw [h.cellAt j (by omega)]
      exact hg
    have hd : l.toArray[j / 3]! = a := by
      have := (List.getElem?_eq_some_iff.1 ha).2
      simp [hi, this]
    refine ⟨?_, by simp [World.frozen?, hh]⟩
    rw [Nat.zero_add, hc, get_flatK _ _ _ _ (by simpa using hj), hd]
    rfl

/-- the arcs that are no loops. -/
def kept (xs : List (Int × Int × Int)) : List (Int × Int × Int) := xs.filter fun a => !(a.1 == a.2.1)
/-- they, sorted. -/
def sortedA (xs : List (Int × Int × Int)) : Array (Int × Int × Int) := pdq (ltOf arcI) (kept xs).toArray 0 (kept xs).toArray.size (Lib.bitLen (kept xs).toArray.size) true true
theorem kept_snoc {xs : List (Int × Int × Int)} {k : Nat} {a : Int × Int × Int} (h : xs[k]? = some a) : kept (xs.take (k + 1)) = kept (xs.take k) ++ (if a.1 == a.2.1 then [] else [a]) := by
  obtain ⟨hlt, he⟩ := List.getElem?_eq_some_iff.1 h
  rw [List.take_succ_eq_append_getElem hlt, he]
  unfold kept
  rw [List.filter_append]
  congr 1
  by_cases hb : a.1 == a.2.1 <;> simp [hb]
theorem kept_le (xs : List (Int × Int × Int)) : (kept xs).length ≤ xs.length := List.length_filter_le _ _

theorem row_keep {w w' : World} {base g n cap : Nat} {xs : List Value} (h : w.ownsRow base 33 3 (.slice (some ⟨g, 0, none⟩) n cap) n xs) (hk : w'.heap[g]? = w.heap[g]?) : w'.ownsRow base 33 3 (.slice (some ⟨g, 0, none⟩) n cap) n xs := by
  obtain ⟨h1, h2⟩ := h
  refine ⟨h1, ?_⟩
  rcases h2 with h2 | ⟨g', cap', cur, e, hb, hh, r⟩
  · exact Or.inl h2
  · cases e
    exact Or.inr ⟨g, cap, cur, rfl, hb, hk.trans hh, r⟩
/-- what holds at each round of Of's first loop. -/
structure OfI (w : World) (R : Nat) (N : Int) (ao : Option Addr) (cap : Nat) (xs : List (Int × Int × Int)) (l : List (Int × Int × Int)) (wr : World) : Prop where
  row : wr.ownsRow w.heap.size 33 3 (.slice (some ⟨R, 0, none⟩) l.length xs.length) l.length (flatA l)
  lt : R < wr.heap.size
  box : wr.heap[w.heap.size]? = some (.cells #[.int .i64 N, .slice ao xs.length cap] 24)
  res : wr.heap[w.heap.size + 1]? = some (.cells #[.int .i64 0, .slice none 0 0] 24)
  below : Below w.heap.size w wr
theorem OfI.keep {w : World} {R : Nat} {N : Int} {ao : Option Addr} {cap : Nat} {xs l : List (Int × Int × Int)} {wr wn : World} (h : OfI w R N ao cap xs l wr) (hb : Below wr.heap.size wr wn) : OfI w R N ao cap xs l wn :=
  ⟨row_keep h.row (hb.block _ h.lt), Nat.lt_of_lt_of_le h.lt hb.size, (hb.block _ (lt_of_get h.box)).trans h.box, (hb.block _ (lt_of_get h.res)).trans h.res, h.below.trans (hb.mono h.below.size)⟩

/-- what compacting is asked for. -/
def Compacts (xs zs : List (Int × Int × Int)) : Prop := ∀ (b : Nat) (wx : World), HoldsK encA 3 wx b 0 (sortedA xs) → b < wx.heap.size →
  Calls Try.prog 39 #[.slice (some ⟨b, 0, none⟩) (kept xs).length xs.length, .func (.func 40) #[] #[]] wx fun e w' => e = .returned (.slice (some ⟨b, 0, none⟩) zs.length xs.length) ∧ HasArcs w' (.slice (some ⟨b, 0, none⟩) zs.length xs.length) zs ∧ Touch b wx w'

set_option maxRecDepth 100000 in
set_option maxHeartbeats 4000000 in
theorem of_calls (N : Int) (ao : Option Addr) (cap : Nat) (xs zs : List (Int × Int × Int)) (w : World) (hl : HasArcs w (.slice ao xs.length cap) xs) (hgood : graphErr N xs = (0, [])) (hm : xs.length ≤ 262144) (hC : Compacts xs zs) :
    Calls Try.prog 16 #[.agg #[.int .i64 N, .slice ao xs.length cap]] w fun e w' => ∃ b, e = .returned (.tuple #[.agg #[.int .i64 N, .slice (some ⟨b, 0, none⟩) zs.length xs.length], .nilIface]) ∧ HasArcs w' (.slice (some ⟨b, 0, none⟩) zs.length xs.length) zs ∧ Below w.heap.size w w' := by
  obtain ⟨i0, hi, hz0, hz1, hz2⟩ : ∃ i, Try.prog.info? 33 = some i ∧ i.zero = some (.agg #[.int .i64 0, .int .i64 0, .int .i64 0]) ∧ i.size = 3 ∧ i.bytes = 24 := by
    have h := Try.info51
    cases hi : Try.prog.info? 33 with
    | none => rw [hi] at h; cases h
    | some i => rw [hi] at h; simp at h; exact ⟨i, rfl, h.1, h.2.1, h.2.2⟩
  obtain ⟨W0, hW0⟩ : ∃ W0, (w.alloc (.cells #[.int .i64 N, .slice ao xs.length cap] 24)).alloc (.cells #[.int .i64 0, .slice none 0 0] 24) = W0 := ⟨_, rfl⟩
  have hB0 : Below w.heap.size w W0 := by rw [← hW0]; exact ((Below.refl _ w).alloc (Nat.le_refl _) _).alloc (by simp) _
  have k0 : W0.heap[w.heap.size]? = some (.cells #[.int .i64 N, .slice ao xs.length cap] 24) := by rw [← hW0, Below.heap_alloc _ _ _ (by simp)]; exact heap_new _ _
  have k1 : W0.heap[w.heap.size + 1]? = some (.cells #[.int .i64 0, .slice none 0 0] 24) := by
    have h := heap_new (w.alloc (.cells #[.int .i64 N, .slice ao xs.length cap] 24)) (.cells #[.int .i64 0, .slice none 0 0] 24)
    rw [hW0] at h
    simpa using h
  have hs0 : W0.heap.size = w.heap.size + 2 := by rw [← hW0]; simp
  have HW0 : Hid ((w.alloc (.cells #[.int .i64 N, .slice ao xs.length cap] 24)).alloc (.cells #[.int .i64 0, .slice none 0 0] 24) = W0) := hW0
  have HB0 : Hid (Below w.heap.size w W0) := hB0
  have HCK : Hid (Calls Try.prog 32 #[.agg #[.int .i64 N, .slice ao xs.length cap]] W0 fun e w' => e = .returned .nilIface ∧ Below W0.heap.size W0 w') := by
    refine (check_calls N ao cap xs W0 (hl.keep hB0) (by unfold maxLen; omega)).mono ?_
    rintro e w' ⟨v, rfl, ht, hb⟩
    rw [hgood] at ht
    rcases ht with ⟨_, rfl⟩ | ⟨h, _⟩
    · exact ⟨rfl, hb⟩
    · exact absurd rfl h
  have HL : Hid (HasArcs w (.slice ao xs.length cap) xs) := hl
  have HK0 : Hid (W0.heap[w.heap.size]? = some (.cells #[.int .i64 N, .slice ao xs.length cap] 24) ∧ W0.heap[w.heap.size + 1]? = some (.cells #[.int .i64 0, .slice none 0 0] 24)) := ⟨k0, k1⟩
  have HC : Hid (Compacts xs zs) := hC
  clear hl k0 k1 hB0 hW0 hgood hC
  have HIL : Hid (∀ (x0 x1 x2 : Int) (wx : World), Calls Try.prog 33 #[.agg #[.int .i64 x0, .int .i64 x1, .int .i64 x2]] wx fun e w' => e = .returned (.bool (x0 == x1)) ∧ Laid wx w') := fun x0 x1 x2 wx => isLoop_calls (x0, x1, x2) wx
  go_enter Try.func16, Try.ntmps16
  go_wp2_with fail
  rw [HW0.out]
  refine HCK.out.mono ?_
  rintro e w1 ⟨rfl, hb1⟩
  have HB1 : Hid (Below w.heap.size w w1) := HB0.out.trans (hb1.mono HB0.out.size)
  have HK1 : Hid (w1.heap[w.heap.size]? = some (.cells #[.int .i64 N, .slice ao xs.length cap] 24) ∧ w1.heap[w.heap.size + 1]? = some (.cells #[.int .i64 0, .slice none 0 0] 24)) := ⟨(hb1.block _ (by omega)).trans HK0.out.1, (hb1.block _ (by omega)).trans HK0.out.2⟩
  have hs1 : w.heap.size + 1 < w1.heap.size := lt_of_get HK1.out.2
  have hs2 : w.heap.size < w1.heap.size := by omega
  obtain ⟨c0, c1⟩ : w1.cell? ⟨w.heap.size, 0, none⟩ = some (.int .i64 N) ∧ w1.cell? ⟨w.heap.size, 1, none⟩ = some (.slice ao xs.length cap) := by simp [World.cell?, HK1.out.1]
  clear hb1
  go_wp2_with (refine wpList_make_own _ rfl _ _ 22 rfl w.heap.size 33 i0 (.agg #[.int .i64 0, .int .i64 0, .int .i64 0]) 3 Try.underlying22 hi hz0 hz1 .i64 .i64 (xs.length : Int) xs.length rfl rfl rfl ?hby ?h63 ?hbase ?_; (case hby => rw [hz2]; omega); (case h63 => unfold maxLen; omega); (case hbase => omega); intro w2 hown2 hgrow2; have hbW2 : ∀ k, k < w1.heap.size → w2.heap[k]? = w1.heap[k]? := (fun k hk => hgrow2.block k hk (by simp)); have hlt2 : w1.heap.size ≤ w2.heap.size := hgrow2.size; have d0 : w2.cell? ⟨w.heap.size, 0, none⟩ = some (.int .i64 N) := (World.cell?_of_block (w := w1) (a := ⟨w.heap.size, 0, none⟩) (hbW2 _ hs2)).trans c0; have d1 : w2.cell? ⟨w.heap.size, 1, none⟩ = some (.slice ao xs.length cap) := (World.cell?_of_block (w := w1) (a := ⟨w.heap.size, 1, none⟩) (hbW2 _ hs2)).trans c1)
  have hlR : w1.heap.size < w2.heap.size := by
    rcases hown2.2 with ⟨e, _⟩ | ⟨g', cap', cur, e, _, hh, _⟩
    · cases e
    · cases e; exact lt_of_get hh
  have HI2 : Hid (OfI w w1.heap.size N ao cap xs [] w2) := ⟨hown2, hlR, (hbW2 _ hs2).trans HK1.out.1, (hbW2 _ hs1).trans HK1.out.2, HB1.out.trans ⟨hgrow2.os, hgrow2.tape, hgrow2.output, hgrow2.size, fun k hk => hbW2 k (by omega)⟩⟩
  have HR : Hid (w.heap.size + 1 < w1.heap.size) := hs1
  clear hown2 hgrow2 hbW2 hlt2 c0 c1 d0 d1 hlR
  obtain ⟨R, hR⟩ : ∃ R, w1.heap.size = R := ⟨_, rfl⟩
  rw [hR] at HI2 HR ⊢
  clear hs1 hs2 HK1 HB1 hR
  go_loopw [5, 21] (fun sv iv wr => ∃ k : Nat, k ≤ xs.length ∧ iv = .int .i64 k ∧ sv = .slice (some ⟨R, 0, none⟩) (kept (xs.take k)).length xs.length ∧ OfI w R N ao cap xs (kept (xs.take k)) wr) (fun _ iv _ => xs.length - (intOf iv).toNat)
  case atStart => exact ⟨0, Nat.zero_le _, rfl, rfl, HI2.out⟩
  case round =>
    obtain ⟨k, hk, rfl, hsv, hinv⟩ := hrel
    subst hsv
    have HI : Hid (OfI w R N ao cap xs (kept (xs.take k)) wr) := hinv
    clear hinv
    by_cases hlt : k < xs.length
    · obtain ⟨a, ha⟩ : ∃ a, xs[k]? = some a := ⟨xs[k], List.getElem?_eq_getElem hlt⟩
      obtain ⟨b, off, hao, hbl, q0, q1, q2⟩ := HL.out.at ha
      subst hao
      have e0 := (HI.out.below.cell (p := ⟨b, off + k * 3, none⟩) hbl).trans q0
      have e1 := (HI.out.below.cell (p := ⟨b, off + k * 3 + 1, none⟩) hbl).trans q1
      have e2 := (HI.out.below.cell (p := ⟨b, off + k * 3 + 2, none⟩) hbl).trans q2
      have HKS : Hid (kept (xs.take (k + 1)) = kept (xs.take k) ++ (if a.1 == a.2.1 then [] else [a])) := kept_snoc ha
      have HKL : Hid ((kept (xs.take k)).length ≤ k) := by show _ ≤ _; exact Nat.le_trans (kept_le _) (by rw [List.length_take]; omega)
      clear q0 q1 q2 ha
      generalize kept (xs.take k) = K at *
      obtain ⟨a0, a1, a2⟩ := a
      simp only at e0 e1 e2 HKS
      have hBA : Below wr.heap.size wr (wr.alloc (.cells #[.int .i64 a0, .int .i64 a1, .int .i64 a2] 33)) := (Below.refl _ wr).alloc (Nat.le_refl _) _
      have HIA : Hid (∀ wx, Laid (wr.alloc (.cells #[.int .i64 a0, .int .i64 a1, .int .i64 a2] 33)) wx → OfI w R N (some ⟨b, off, none⟩) cap xs K wx ∧ wx.cell? ⟨wr.heap.size, 0, none⟩ = some (.int .i64 a0) ∧ wx.cell? ⟨wr.heap.size, 1, none⟩ = some (.int .i64 a1) ∧ wx.cell? ⟨wr.heap.size, 2, none⟩ = some (.int .i64 a2) ∧ wr.heap.size < wx.heap.size) := fun wx h => by
        have hn : wx.heap[wr.heap.size]? = some (.cells #[.int .i64 a0, .int .i64 a1, .int .i64 a2] 33) := (h.block (by simp)).trans (heap_new _ _)
        exact ⟨HI.out.keep (hBA.trans (h.below.mono (by simp))), by simp [World.cell?, hn], by simp [World.cell?, hn], by simp [World.cell?, hn], lt_of_get hn⟩
      clear hBA
      go_wp2_with fail
      refine (HIL.out _ _ _ _).mono ?_
      rintro e w3 ⟨rfl, hL3⟩
      obtain ⟨hI3, f0, f1, f2, hs3⟩ := HIA.out w3 hL3
      have HI3 : Hid (OfI w R N (some ⟨b, off, none⟩) cap xs K w3) := hI3
      clear hL3 hI3
      by_cases hab : a0 = a1
      · have hab' : (a0 == a1) = true := by simpa using hab
        have HKE : Hid (kept (xs.take (k + 1)) = K) := by have h := HKS.out; rw [hab', if_pos rfl, List.append_nil] at h; exact h
        clear hab
        go_wp2
        go_roundw
        case rel => exact ⟨k + 1, by omega, by go_num, by rw [HKE.out], by rw [HKE.out]; exact HI3.out⟩
        case measure => simp [intOf]; omega
      · have hab' : (a0 == a1) = false := by simpa using hab
        have HKE : Hid (kept (xs.take (k + 1)) = K ++ [(a0, a1, a2)]) := by have h := HKS.out; rw [hab', if_neg (by decide)] at h; exact h
        have hKl : K.length + 1 ≤ xs.length := by have := HKL.out; omega
        clear hab
        go_wp2_with (at_builtin; refine wpList_append_own_spare _ rfl _ _ 22 rfl w.heap.size 33 i0 3 Try.underlying22 hi hz1 R K.length xs.length (flatA K) rfl ?hown ⟨w3.heap.size, 0, none⟩ 1 1 [.int .i64 a0, .int .i64 a1, .int .i64 a2] rfl rfl ?hnews ?hone ?hroom ?_; (case hown => exact (HI3.out.keep ((Below.refl _ w3).alloc (Nat.le_refl _) _)).row); (case hnews => intro j x hx; rcases j with _ | _ | _ | j <;> simp at hx <;> subst hx <;> simp [Addr.add]); (case hone => intro x hx; simp at hx; rcases hx with rfl | rfl | rfl <;> rfl); (case hroom => exact hKl); intro w5 hown5 hgrow5)
        have HI4 : Hid (OfI w R N (some ⟨b, off, none⟩) cap xs K (w3.alloc (.cells #[.int .i64 a0, .int .i64 a1, .int .i64 a2] 33))) := HI3.out.keep ((Below.refl _ w3).alloc (Nat.le_refl _) _)
        have hRR := HR.out
        refine ⟨⟨k + 1, by omega, by go_num, by rw [HKE.out, List.length_append]; rfl, ?_⟩, by simp [intOf]; omega⟩
        rw [HKE.out]
        have hbk : ∀ j, j < (w3.alloc (.cells #[.int .i64 a0, .int .i64 a1, .int .i64 a2] 33)).heap.size → j ≠ R → w5.heap[j]? = (w3.alloc (.cells #[.int .i64 a0, .int .i64 a1, .int .i64 a2] 33)).heap[j]? := fun j hj hne => hgrow5.block j hj (fun e => hne (Option.some.inj e))
        refine ⟨?_, Nat.lt_of_lt_of_le HI4.out.lt hgrow5.size, (hbk _ (lt_of_get HI4.out.box) (by omega)).trans HI4.out.box, (hbk _ (lt_of_get HI4.out.res) (by omega)).trans HI4.out.res, ?_⟩
        · rw [flatA_append, List.length_append]
          exact hown5
        · exact HI4.out.below.trans ⟨hgrow5.os, hgrow5.tape, hgrow5.output, hgrow5.size, fun j hj => hbk j (by have := HI4.out.below.size; omega) (by omega)⟩
    · obtain rfl : k = xs.length := by omega
      rw [List.take_length] at HI ⊢
      have HSO : Hid (Calls Try.prog 34 #[.slice (some ⟨R, 0, none⟩) (kept xs).length xs.length, .func (.func 35) #[] #[]] wr fun e w' => e = .returned (.tuple #[]) ∧ HoldsK encA 3 w' R 0 (sortedA xs) ∧ Touch R wr w') :=
        sort_calls R xs.length (kept xs).toArray wr (holds_of_row rfl HI.out.row) HI.out.lt (by have := kept_le xs; simp; omega)
      go_wp2_with fail
      refine HSO.out.mono ?_
      rintro e w3 ⟨rfl, hH3, ht3⟩
      have HCO : Hid (Calls Try.prog 39 #[.slice (some ⟨R, 0, none⟩) (kept xs).length xs.length, .func (.func 40) #[] #[]] w3 fun e w' => e = .returned (.slice (some ⟨R, 0, none⟩) zs.length xs.length) ∧ HasArcs w' (.slice (some ⟨R, 0, none⟩) zs.length xs.length) zs ∧ Touch R w3 w') := HC.out R w3 hH3 (Nat.lt_of_lt_of_le HI.out.lt ht3.size)
      have HT3 : Hid (Touch R wr w3) := ht3
      clear hH3 ht3
      go_wp2_with fail
      refine HCO.out.mono ?_
      rintro e w4 ⟨rfl, hA4, ht4⟩
      have hRR := HR.out
      have hbk : ∀ j, j < wr.heap.size → j ≠ R → w4.heap[j]? = wr.heap[j]? := fun j hj hne => (ht4.block j (Nat.lt_of_lt_of_le hj HT3.out.size) hne).trans (HT3.out.block j hj hne)
      have g0 : w4.heap[w.heap.size]? = some (.cells #[.int .i64 N, .slice ao xs.length cap] 24) := (hbk _ (lt_of_get HI.out.box) (by omega)).trans HI.out.box
      have g1 : w4.heap[w.heap.size + 1]? = some (.cells #[.int .i64 0, .slice none 0 0] 24) := (hbk _ (lt_of_get HI.out.res) (by omega)).trans HI.out.res
      have HB4 : Hid (Below w.heap.size w w4) := HI.out.below.trans ⟨ht4.os.trans HT3.out.os, ht4.tape.trans HT3.out.tape, ht4.output.trans HT3.out.output, Nat.le_trans HT3.out.size ht4.size, fun j hj => hbk j (by have := HI.out.below.size; omega) (by omega)⟩
      have HA4 : Hid (HasArcs w4 (.slice (some ⟨R, 0, none⟩) zs.length xs.length) zs) := hA4
      obtain ⟨b0, b1, y0, y1⟩ : w4.cell? ⟨w.heap.size + 1, 0, none⟩ = some (.int .i64 0) ∧ w4.cell? ⟨w.heap.size + 1, 1, none⟩ = some (.slice none 0 0) ∧ w4.frozen? ⟨w.heap.size + 1, 0, none⟩ = false ∧ w4.frozen? ⟨w.heap.size + 1, 1, none⟩ = false := by simp [World.cell?, World.frozen?, g1]
      obtain ⟨c0, c1⟩ : w4.cell? ⟨w.heap.size, 0, none⟩ = some (.int .i64 N) ∧ w4.cell? ⟨w.heap.size, 1, none⟩ = some (.slice ao xs.length cap) := by simp [World.cell?, g0]
      clear hA4 ht4 hbk g0 g1
      go_wp2
      refine bodyPost_ret (v := .tuple #[.agg #[.int .i64 N, .slice (some ⟨R, 0, none⟩) zs.length xs.length], .nilIface]) (by simp [results, Try.results16, go_sem, b0, b1]) rfl ⟨R, rfl, ?_, ?_⟩
      · obtain ⟨ao', cap', e, hc⟩ := HA4.out
        refine ⟨ao', cap', e, fun j a hj => ?_⟩
        obtain ⟨b', off', ea, hl', h0, h1, h2⟩ := hc j a hj
        subst ea
        cases e
        refine ⟨R, 0, rfl, by simp; exact hl', ?_, ?_, ?_⟩
        · rw [World.cell?_setCell_other _ _ _ _ (by intro e; have := congrArg Addr.block e; simp at this; omega), World.cell?_setCell_other _ _ _ _ (by intro e; have := congrArg Addr.block e; simp at this; omega)]; exact h0
        · rw [World.cell?_setCell_other _ _ _ _ (by intro e; have := congrArg Addr.block e; simp at this; omega), World.cell?_setCell_other _ _ _ _ (by intro e; have := congrArg Addr.block e; simp at this; omega)]; exact h1
        · rw [World.cell?_setCell_other _ _ _ _ (by intro e; have := congrArg Addr.block e; simp at this; omega), World.cell?_setCell_other _ _ _ _ (by intro e; have := congrArg Addr.block e; simp at this; omega)]; exact h2
      · exact (HB4.out.setCell (p := ⟨w.heap.size + 1, 0, none⟩) (by simp) _).setCell (p := ⟨w.heap.size + 1, 1, none⟩) (by simp) _
end Go.Proofs.Ytefcmpdnlbpjpaa

namespace Go.Proofs.Ytefcmpdnlbpjpaa
open Go.RowKit Go.Extern Go.Sort Go.Shelf

/-- of the first k arcs of a row those that are not parallel to the one ahead of them. -/
def comp (d : Array (Int × Int × Int)) (k : Nat) : List (Int × Int × Int) := ((List.range k).filter fun j => j == 0 || endsI d[j]! d[j - 1]! != 0).map fun j => d[j]!
theorem comp_succ (d : Array (Int × Int × Int)) (k : Nat) : comp d (k + 1) = comp d k ++ (if (k == 0 || endsI d[k]! d[k - 1]! != 0) = true then [d[k]!] else []) := by
  unfold comp
  rw [List.range_succ, List.filter_append, List.map_append]
  congr 1
  cases hc : (k == 0 || endsI d[k]! d[k - 1]! != 0) with
  | true => simp only [List.filter, hc, if_true]; rfl
  | false => simp only [List.filter, hc, Bool.false_eq_true, if_false]; rfl
theorem comp_len (d : Array (Int × Int × Int)) (k : Nat) : (comp d k).length ≤ k := by
  unfold comp
  rw [List.length_map]
  exact Nat.le_trans (List.length_filter_le _ _) (by simp)
theorem comp_same {d : Array (Int × Int × Int)} {k : Nat} (hk : 0 < k) (h : endsI d[k]! d[k - 1]! = 0) : comp d (k + 1) = comp d k := by
  rw [comp_succ, if_neg (by simp [h]; omega), List.append_nil]
theorem comp_new {d : Array (Int × Int × Int)} {k : Nat} (h : k = 0 ∨ endsI d[k]! d[k - 1]! ≠ 0) : comp d (k + 1) = comp d k ++ [d[k]!] := by
  rw [comp_succ, if_pos (by simp; exact h)]

section
variable {w : World} {b o : Nat} {D : Array (Int × Int × Int)}
theorem holds_at (h : HoldsK encA 3 w b o D) (i : Nat) (hi : i < D.size) : (w.cell? ⟨b, o + i * 3, none⟩ = some (.int .i64 D[i]!.1) ∧ w.cell? ⟨b, o + i * 3 + 1, none⟩ = some (.int .i64 D[i]!.2.1) ∧ w.cell? ⟨b, o + i * 3 + 2, none⟩ = some (.int .i64 D[i]!.2.2)) ∧ w.frozen? ⟨b, o + i * 3, none⟩ = false ∧ w.frozen? ⟨b, o + i * 3 + 1, none⟩ = false ∧ w.frozen? ⟨b, o + i * 3 + 2, none⟩ = false := by
  have hh : ∀ c, c < 3 → w.cell? ⟨b, o + (i * 3 + c), none⟩ = some (encA D[i]!)[c]! ∧ w.frozen? ⟨b, o + (i * 3 + c), none⟩ = false := fun c hc => by
    have h1 := h (i * 3 + c) (by rw [size_flatK]; omega)
    rw [get_flatK _ _ _ _ (by omega), show (i * 3 + c) / 3 = i by omega, show (i * 3 + c) % 3 = c by omega] at h1
    exact h1
  obtain ⟨a0, f0⟩ := hh 0 (by omega)
  obtain ⟨a1, f1⟩ := hh 1 (by omega)
  obtain ⟨a2, f2⟩ := hh 2 (by omega)
  exact ⟨⟨a0, a1, a2⟩, f0, f1, f2⟩
theorem holds_keep {w' : World} (h : HoldsK encA 3 w b o D) (hb : w'.heap[b]? = w.heap[b]?) : HoldsK encA 3 w' b o D := fun j hj =>
  ⟨(World.cell?_of_block hb).trans (h j hj).1, (World.frozen?_of_block hb).trans (h j hj).2⟩
theorem holds_put (h : HoldsK encA 3 w b o D) (i : Nat) (hi : i < D.size) (x : Int × Int × Int) : HoldsK encA 3 (w.setCells b (o + i * 3) (encA x)) b o (D.setIfInBounds i x) := fun j hj => by
  rw [size_flatK, Array.size_setIfInBounds] at hj
  have hj' : j < (flatK encA 3 D).size := by rw [size_flatK]; exact hj
  obtain ⟨h1, h2⟩ := h j hj'
  refine ⟨?_, by rw [World.frozen?_setCells]; exact h2⟩
  rw [get_flatK _ _ _ _ (by simpa using hj)]
  rw [get_flatK _ _ _ _ hj] at h1
  by_cases e : j / 3 = i
  · obtain ⟨c, rfl⟩ : ∃ c, j = i * 3 + c := ⟨j - i * 3, by omega⟩
    have hc : c < (encA x).length := by simp [encA]; omega
    have hin := World.cell?_setCells_in b (encA x) (o + i * 3) w (fun c' hc' => by
      have := (h (i * 3 + c') (by rw [size_flatK]; simp [encA] at hc'; omega)).1
      rw [Nat.add_assoc, this]; rfl) c hc
    rw [Nat.add_assoc] at hin
    rw [e, getElem!_set_same _ _ _ hi, hin]
    show some (encA x)[c] = some (encA x)[(i * 3 + c) % 3]!
    simp [encA] at hc
    rw [show (i * 3 + c) % 3 = c by omega, getElem!_pos (encA x) c (by simp [encA]; omega)]
  · rw [World.cell?_setCells_out _ _ _ _ _ (fun _ _ => by simp [encA]; omega), getElem!_set_other _ _ _ _ e]
    exact h1
end
theorem Touch.cells {b : Nat} {w : World} : ∀ (vs : List Value) (o : Nat) {w' : World}, Touch b w w' → Touch b w (w'.setCells b o vs)
  | [], _, _, h => h
  | v :: r, o, _, h => Touch.cells r (o + 1) ⟨h.os, h.tape, h.output, by simpa using h.size, fun k hk hne => (heap_setCell_other _ _ _ _ hne).trans (h.block k hk hne)⟩
theorem size_cells {b : Nat} : ∀ (vs : List Value) (o : Nat) (w : World), (w.setCells b o vs).heap.size = w.heap.size
  | [], _, _ => rfl
  | v :: r, o, w => (size_cells r (o + 1) _).trans (by simp)
theorem Touch.laid {b : Nat} {w w' wx : World} (h : Touch b w w') (hl : Laid w' wx) : Touch b w wx :=
  ⟨hl.below.os.trans h.os, hl.below.tape.trans h.tape, hl.below.output.trans h.output, Nat.le_trans h.size hl.size, fun k hk hne => (hl.block (Nat.lt_of_lt_of_le hk h.size)).trans (h.block k hk hne)⟩

/-- p arcs have been looked at; the row's first kk are those kept; from the last one looked at on the row is as it was. -/
structure CI (w : World) (b o : Nat) (d : Array (Int × Int × Int)) (wr : World) (D : Array (Int × Int × Int)) (kk p : Nat) : Prop where
  sz : D.size = d.size
  holds : HoldsK encA 3 wr b o D
  lt : b < wr.heap.size
  len : (comp d p).length = kk
  front : ∀ i, i < kk → (comp d p)[i]? = some D[i]!
  rest : ∀ i, p ≤ i + 1 → i < d.size → D[i]! = d[i]!
  touch : Touch b w wr
section
variable {w wr : World} {b o kk p : Nat} {d D : Array (Int × Int × Int)}
theorem CI.laid {wx : World} (h : CI w b o d wr D kk p) (hl : Laid wr wx) : CI w b o d wx D kk p :=
  ⟨h.sz, holds_keep h.holds (hl.block h.lt), Nat.lt_of_lt_of_le h.lt hl.size, h.len, h.front, h.rest, h.touch.laid hl⟩
theorem CI.skip (h : CI w b o d wr D kk p) (hp : 0 < p) (he : endsI d[p]! d[p - 1]! = 0) : CI w b o d wr D kk (p + 1) := by
  have e := comp_same hp he
  exact ⟨h.sz, h.holds, h.lt, by rw [e]; exact h.len, by rw [e]; exact h.front, fun i hi => h.rest i (by omega), h.touch⟩
theorem CI.add (h : CI w b o d wr d p p) (he : p = 0 ∨ endsI d[p]! d[p - 1]! ≠ 0) : CI w b o d wr d (p + 1) (p + 1) := by
  have e := comp_new he
  refine ⟨rfl, h.holds, h.lt, by rw [e, List.length_append, h.len]; rfl, fun i hi => ?_, fun _ _ _ => rfl, h.touch⟩
  rw [e]
  by_cases hlt : i < p
  · rw [List.getElem?_append_left (by rw [h.len]; exact hlt)]; exact h.front i hlt
  · obtain rfl : i = p := by omega
    rw [List.getElem?_append_right (by rw [h.len]; omega), h.len]; simp
theorem CI.put (h : CI w b o d wr D kk p) (hk : kk < p) (hp : p < d.size) (he : endsI d[p]! d[p - 1]! ≠ 0) : CI w b o d (wr.setCells b (o + kk * 3) (encA d[p]!)) (D.setIfInBounds kk d[p]!) (kk + 1) (p + 1) := by
  have e := comp_new (Or.inr he)
  have hkD : kk < D.size := by rw [h.sz]; omega
  refine ⟨by simp [h.sz], holds_put h.holds kk hkD _, by rw [size_cells]; exact h.lt, by rw [e, List.length_append, h.len]; rfl, fun i hi => ?_, fun i hi hi2 => ?_, h.touch.cells _ _⟩
  · rw [e]
    by_cases hlt : i < kk
    · rw [List.getElem?_append_left (by rw [h.len]; exact hlt), getElem!_set_other _ _ _ _ (by omega)]; exact h.front i hlt
    · obtain rfl : i = kk := by omega
      rw [List.getElem?_append_right (by rw [h.len]; omega), h.len, getElem!_set_same _ _ _ hkD]; simp
  · rw [getElem!_set_other _ _ _ _ (by omega)]; exact h.rest i (by omega) hi2
theorem CI.start (hH : HoldsK encA 3 w b o d) (hb : b < w.heap.size) : CI w b o d w d 1 1 :=
  CI.add ⟨rfl, hH, hb, rfl, fun i hi => by omega, fun _ _ _ => rfl, ⟨rfl, rfl, rfl, Nat.le_refl _, fun _ _ _ => rfl⟩⟩ (Or.inl rfl)
/-- what is kept lies in memory. -/
theorem CI.arcs (h : CI w b o d wr D kk p) (hk : kk ≤ d.size) (cap : Nat) : HasArcs wr (.slice (some ⟨b, o, none⟩) kk cap) (comp d p) := by
  refine ⟨_, _, by rw [h.len], fun j a hj => ?_⟩
  have hlt : j < kk := by have := (List.getElem?_eq_some_iff.1 hj).1; rw [h.len] at this; exact this
  obtain rfl : D[j]! = a := Option.some.inj ((h.front j hlt).symm.trans hj)
  obtain ⟨⟨c0, c1, c2⟩, _⟩ := holds_at h.holds j (by rw [h.sz]; omega)
  exact ⟨b, o, rfl, h.lt, c0, c1, c2⟩
end
theorem Try.elem22 : Try.prog.underlying 22 = some (.slice (Try.prog.elem 22)) := by kernel_rfl
theorem Try.size22 (w : World) : (sizeOf (Try.prog.elem 22)).run Try.prog w = .ok 3 w := by kernel_rfl
/-- 's[i:]', i below its length. -/
theorem slice_from (w : World) (b o n m cap i : Nat) (h : n = i + m) (hm : 0 < m) (hc : n ≤ cap) : (Instr.slice 22 (.slice (some ⟨b, o, none⟩) n cap) (some (.int .i64 (i : Int))) none none).run Try.prog w = .ok (.slice (some ⟨b, o + i * 3, none⟩) m (cap - i)) w := by
  rw [run_slice_l (ht := Try.elem22) (h0 := by omega) (h1 := by omega), Try.size22]
  have e2 : (i : Int).toNat = i := by omega
  simp only [Result.andThen_ok, sliced, e2]
  rw [if_neg (by omega)]
  simp [Addr.add]
  omega
/-- 's[:i]'. -/
theorem slice_to (w : World) (b o n cap i : Nat) (h : i ≤ cap) (hc : 0 < cap) : (Instr.slice 22 (.slice (some ⟨b, o, none⟩) n cap) none (some (.int .i64 (i : Int))) none).run Try.prog w = .ok (.slice (some ⟨b, o, none⟩) i cap) w := by
  rw [run_slice_h (ht := Try.elem22) (h0 := by omega) (h2 := by omega), Try.size22]
  have e2 : (i : Int).toNat = i := by omega
  simp only [Result.andThen_ok, sliced, e2]
  rw [if_neg (by omega)]
  simp [Addr.add]
/-- the cells of arcs, wiped. -/
def wiped (m : Nat) : List Value := (Builtin.zeroCells #[.int .i64 0, .int .i64 0, .int .i64 0] m).toList
theorem wiped_len (m : Nat) : (wiped m).length = m * 3 := by simp [wiped, Builtin.zeroCells]
theorem wiped_one (m : Nat) : ∀ v ∈ wiped m, v.oneCell' = true := fun v hv => by
  simp only [wiped, Builtin.zeroCells] at hv
  simp at hv
  obtain ⟨a, _, rfl⟩ := hv
  rcases (show a % 3 = 0 ∨ a % 3 = 1 ∨ a % 3 = 2 by omega) with h | h | h <;> rw [h] <;> rfl
/-- 'clear(s)' of arcs. -/
theorem clear_run (b o m c : Nat) (W : World) (hm : 0 < m) (hc : ∀ j, j < m * 3 → (W.cell? ⟨b, o + j, none⟩).isSome = true) (hf : ∀ j, j < m * 3 → W.frozen? ⟨b, o + j, none⟩ = false) :
    (Builtin.clear_ #[22] 0 #[.slice (some ⟨b, o, none⟩) m c]).run Try.prog W = .ok (.tuple #[]) (W.setCells b o (wiped m)) := by
  have hst := run_storeCells_cells (P := Try.prog) b o (wiped m) 0 W (by rw [wiped_len]; simpa using hc) (by rw [wiped_len]; simpa using hf) (wiped_one m)
  simp only [Nat.add_zero] at hst
  obtain ⟨m, rfl⟩ : ∃ k, m = k + 1 := ⟨m - 1, by omega⟩
  have hz := Try.zeroValue33
  unfold wiped at *
  simp [Builtin.clear_, run_underlying Try.underlying22, hz, Value.cells, hst]
end Go.Proofs.Ytefcmpdnlbpjpaa

namespace Go.Proofs.Ytefcmpdnlbpjpaa
open Go.RowKit Go.Extern Go.Sort Go.Shelf

attribute [local go_sem] Oper.semAt_some

theorem CI.done {w wr : World} {b o kk p : Nat} {d D : Array (Int × Int × Int)} (h : CI w b o d wr D kk p) (hk : kk ≤ d.size) (cap : Nat) (vs : List Value) : HasArcs (wr.setCells b (o + kk * 3) vs) (.slice (some ⟨b, o, none⟩) kk cap) (comp d p) ∧ Touch b w (wr.setCells b (o + kk * 3) vs) := by
  refine ⟨⟨_, _, by rw [h.len], fun j a hj => ?_⟩, h.touch.cells _ _⟩
  have hlt : j < kk := by have := (List.getElem?_eq_some_iff.1 hj).1; rw [h.len] at this; exact this
  obtain rfl : D[j]! = a := Option.some.inj ((h.front j hlt).symm.trans hj)
  obtain ⟨⟨c0, c1, c2⟩, _⟩ := holds_at h.holds j (by rw [h.sz]; omega)
  have keep : ∀ c, c < kk * 3 → (wr.setCells b (o + kk * 3) vs).cell? ⟨b, o + c, none⟩ = wr.cell? ⟨b, o + c, none⟩ := fun c hc => World.cell?_setCells_out _ _ _ _ _ (fun _ _ => Or.inl (by simp; omega))
  exact ⟨b, o, rfl, by rw [size_cells]; exact h.lt, (keep (j * 3) (by omega)).trans c0, (keep (j * 3 + 1) (by omega)).trans c1, (keep (j * 3 + 2) (by omega)).trans c2⟩

set_option maxRecDepth 100000 in
set_option maxHeartbeats 1000000 in
theorem compact_calls (d : Array (Int × Int × Int)) (b o n cap : Nat) (w : World) (hn : d.size = n) (hcap : n ≤ cap) (hn6 : n ≤ 262144) (hH : HoldsK encA 3 w b o d) (hb : b < w.heap.size) :
    Calls Try.prog 39 #[.slice (some ⟨b, o, none⟩) n cap, .func (.func 40) #[] #[]] w fun e w' => e = .returned (.slice (some ⟨b, o, none⟩) (comp d n).length cap) ∧ HasArcs w' (.slice (some ⟨b, o, none⟩) (comp d n).length cap) (comp d n) ∧ Touch b w w' := by
  have HEQ : Hid (∀ x y wx, Calls Try.prog 40 #[arcV x, arcV y] wx fun e w' => e = .returned (.bool (endsI x y == 0)) ∧ Laid wx w') := fun x y wx => compactEq_calls x y wx
  have HN : Hid (d.size = n) := hn
  by_cases h2 : (n : Int) < 2
  · have HH : Hid (HasArcs w (.slice (some ⟨b, o, none⟩) n cap) (comp d n) ∧ (comp d n).length = n) := by
      rcases (show n = 0 ∨ n = 1 by omega) with rfl | rfl
      · exact ⟨⟨_, _, rfl, fun j a hj => by simp [comp] at hj⟩, rfl⟩
      · exact ⟨(CI.start hH hb).arcs (by omega) cap, (CI.start hH hb).len⟩
    clear hH hn
    go_enter Try.func39, Try.ntmps39
    go_wp2
    go_ret
    rw [HH.out.2]
    exact ⟨rfl, HH.out.1, ⟨rfl, rfl, rfl, Nat.le_refl _, fun _ _ _ => rfl⟩⟩
  have HC1 : Hid (CI w b o d w d 1 1) := CI.start hH hb
  clear hH hn
  go_enter Try.func39, Try.ntmps39
  go_wp2_with fail
  go_loopw [5] (fun kv wr => ∃ k : Nat, 1 ≤ k ∧ k ≤ n ∧ kv = .int .i64 k ∧ CI w b o d wr d k k) (fun kv _ => n - (intOf kv).toNat)
  case atStart => exact ⟨1, Nat.le_refl _, by omega, rfl, HC1.out⟩
  case round =>
    obtain ⟨k, hk1, hk, rfl, hC⟩ := hrel
    have HC : Hid (CI w b o d wr d k k) := hC
    clear hC
    by_cases hlt : k < n
    · obtain ⟨j, hkj⟩ : ∃ j, k = j + 1 := ⟨k - 1, by omega⟩
      have HKJ : Hid (k = j + 1) := hkj
      obtain ⟨⟨x0, x1, x2⟩, hx⟩ : ∃ x, d[k]! = x := ⟨_, rfl⟩
      obtain ⟨⟨p0, p1, p2⟩, hp⟩ : ∃ p, d[j]! = p := ⟨_, rfl⟩
      have HX : Hid (d[k]! = (x0, x1, x2) ∧ d[j]! = (p0, p1, p2)) := ⟨hx, hp⟩
      have HCL : Hid (∀ wx, Laid wr wx → (wx.cell? ⟨b, o + k * 3, none⟩ = some (.int .i64 x0) ∧ wx.cell? ⟨b, o + k * 3 + 1, none⟩ = some (.int .i64 x1) ∧ wx.cell? ⟨b, o + k * 3 + 2, none⟩ = some (.int .i64 x2)) ∧ wx.cell? ⟨b, o + j * 3, none⟩ = some (.int .i64 p0) ∧ wx.cell? ⟨b, o + j * 3 + 1, none⟩ = some (.int .i64 p1) ∧ wx.cell? ⟨b, o + j * 3 + 2, none⟩ = some (.int .i64 p2)) := fun wx hl => by
        have h := (HC.out.laid hl).holds
        have h1 := (holds_at h k (by have := HN.out; omega)).1
        have h2 := (holds_at h j (by have := HN.out; omega)).1
        rw [hx] at h1
        rw [hp] at h2
        exact ⟨h1, h2⟩
      have HE : Hid (∀ wx, Calls Try.prog 40 #[.agg #[.int .i64 x0, .int .i64 x1, .int .i64 x2], .agg #[.int .i64 p0, .int .i64 p1, .int .i64 p2]] wx fun e w' => e = .returned (.bool (endsI (x0, x1, x2) (p0, p1, p2) == 0)) ∧ Laid wx w') := fun wx => HEQ.out (x0, x1, x2) (p0, p1, p2) wx
      clear hx hp
      obtain ⟨⟨c0, c1, c2⟩, c3, c4, c5⟩ := HCL.out wr (Laid.refl wr)
      have hj1 : (j : Int) < n := by omega
      have hj4 : (0 : Int) ≤ j := by omega
      have hj5 : (k : Int) - 1 = (j : Int) := by omega
      have hj7 : IntKind.i64.wrap (j : Int) = (j : Int) := by rw [IntKind.wrap_i64] <;> omega
      have hj8 : IntKind.i64.wrap ((k : Int) - 1) = (j : Int) := by rw [IntKind.wrap_i64] <;> omega
      have hk4 : (0 : Int) ≤ k := by omega
      have hk5 : (k : Int) < n := by omega
      clear hkj
      have HLD : Hid (Laid wr wr.drew) := (Laid.refl wr).drew
      by_cases hE : endsI (x0, x1, x2) (p0, p1, p2) = 0
      · have HE' : Hid (∀ wx, Calls Try.prog 40 #[.agg #[.int .i64 x0, .int .i64 x1, .int .i64 x2], .agg #[.int .i64 p0, .int .i64 p1, .int .i64 p2]] wx fun e w' => e = .returned (.bool true) ∧ Laid wx w') := fun wx => by have h := HE.out wx; rw [show (endsI (x0, x1, x2) (p0, p1, p2) == 0) = true by simpa using hE] at h; exact h
        have HZ : Hid (endsI d[k]! d[k - 1]! = 0) := by rw [show k - 1 = j by have := HKJ.out; omega, HX.out.1, HX.out.2]; exact hE
        clear HE hE
        go_wp2_with fail
        go_region_held3 (fun w' => w'.cell? ⟨b, o + k * 3, none⟩ = some (.int .i64 x0) ∧ w'.cell? ⟨b, o + k * 3 + 1, none⟩ = some (.int .i64 x1) ∧ w'.cell? ⟨b, o + k * 3 + 2, none⟩ = some (.int .i64 x2) ∧ w'.cell? ⟨b, o + j * 3, none⟩ = some (.int .i64 p0) ∧ w'.cell? ⟨b, o + j * 3 + 1, none⟩ = some (.int .i64 p1) ∧ w'.cell? ⟨b, o + j * 3 + 2, none⟩ = some (.int .i64 p2)) (go_keep) (first
          | (go_at_call 40; refine (HE'.out _).mono ?_; rintro e w1 ⟨rfl, hL1⟩; have HL1 : Hid (Laid wr w1) := HLD.out.trans hL1; obtain ⟨⟨g0, g1, g2⟩, g3, g4, g5⟩ := HCL.out w1 HL1.out; clear hL1))
        all_goals
          have HC2 : Hid (CI w b o d w1 d k (k + 1)) := (HC.out.laid HL1.out).skip (by omega) HZ.out
          obtain ⟨m, hm⟩ : ∃ m, k + m = n := ⟨n - k, by omega⟩
          have hsl : ∀ wx, (Instr.slice 22 (.slice (some ⟨b, o, none⟩) n cap) (some (.int .i64 (k : Int))) none none).run Try.prog wx = .ok (.slice (some ⟨b, o + k * 3, none⟩) m (cap - k)) wx := fun wx => slice_from wx b o n m cap k hm.symm (by omega) hcap
          have HM : Hid (n = k + m) := hm.symm
          clear HC HCL HL1 HZ HE' HX HLD g0 g1 g2 g3 g4 g5 c0 c1 c2 c3 c4 c5 HKJ hj1 hj4 hj5 hj7 hj8
          go_wp2_with fail
          go_loopw [5, 7] (fun kv iv wr => ∃ (kk i : Nat) (D : Array (Int × Int × Int)), kv = .int .i64 kk ∧ iv = .int .i64 i ∧ 1 ≤ i ∧ i ≤ m ∧ kk < k + i ∧ CI w b o d wr D kk (k + i)) (fun _ iv _ => m - (intOf iv).toNat)
          case atStart => exact ⟨k, 1, d, rfl, rfl, by omega, by omega, by omega, HC2.out⟩
          case round =>
            obtain ⟨kk, i, D, rfl, rfl, hi1, him, hkk, hC⟩ := hrel
            have HC : Hid (CI w b o d wr D kk (k + i)) := hC
            clear hC HC2 hsl
            have hk0 : (0 : Int) ≤ kk := by omega
            have hkn : (kk : Int) < n := by omega
            by_cases hil : i < m
            · obtain ⟨l, hli⟩ : ∃ l, i = l + 1 := ⟨i - 1, by omega⟩
              have HLI : Hid (i = l + 1) := hli
              obtain ⟨⟨y0, y1, y2⟩, hy⟩ : ∃ x, d[k + i]! = x := ⟨_, rfl⟩
              obtain ⟨⟨z0, z1, z2⟩, hz⟩ : ∃ p, d[k + l]! = p := ⟨_, rfl⟩
              have HY : Hid (d[k + i]! = (y0, y1, y2) ∧ d[k + l]! = (z0, z1, z2)) := ⟨hy, hz⟩
              have HCL : Hid (∀ wx, Laid wr wx → (wx.cell? ⟨b, o + k * 3 + i * 3, none⟩ = some (.int .i64 y0) ∧ wx.cell? ⟨b, o + k * 3 + i * 3 + 1, none⟩ = some (.int .i64 y1) ∧ wx.cell? ⟨b, o + k * 3 + i * 3 + 2, none⟩ = some (.int .i64 y2)) ∧ wx.cell? ⟨b, o + k * 3 + l * 3, none⟩ = some (.int .i64 z0) ∧ wx.cell? ⟨b, o + k * 3 + l * 3 + 1, none⟩ = some (.int .i64 z1) ∧ wx.cell? ⟨b, o + k * 3 + l * 3 + 2, none⟩ = some (.int .i64 z2)) := fun wx hl => by
                have h := HC.out.laid hl
                have hs := h.sz
                have hn := HN.out
                have h1 := (holds_at h.holds (k + i) (by omega)).1
                have h2 := (holds_at h.holds (k + l) (by omega)).1
                rw [h.rest (k + i) (by omega) (by omega), hy] at h1
                rw [h.rest (k + l) (by omega) (by omega), hz] at h2
                rw [show o + (k + i) * 3 = o + k * 3 + i * 3 by omega] at h1
                rw [show o + (k + l) * 3 = o + k * 3 + l * 3 by omega] at h2
                exact ⟨h1, h2⟩
              have HE : Hid (∀ wx, Calls Try.prog 40 #[.agg #[.int .i64 y0, .int .i64 y1, .int .i64 y2], .agg #[.int .i64 z0, .int .i64 z1, .int .i64 z2]] wx fun e w' => e = .returned (.bool (endsI (y0, y1, y2) (z0, z1, z2) == 0)) ∧ Laid wx w') := fun wx => HEQ.out (y0, y1, y2) (z0, z1, z2) wx
              clear hy hz
              obtain ⟨⟨c0, c1, c2⟩, c3, c4, c5⟩ := HCL.out wr (Laid.refl wr)
              have hj1 : (l : Int) < m := by omega
              have hj4 : (0 : Int) ≤ l := by omega
              have hj5 : (i : Int) - 1 = (l : Int) := by omega
              have hj7 : IntKind.i64.wrap (l : Int) = (l : Int) := by rw [IntKind.wrap_i64] <;> omega
              have hj8 : IntKind.i64.wrap ((i : Int) - 1) = (l : Int) := by rw [IntKind.wrap_i64] <;> omega
              have hi4 : (0 : Int) ≤ i := by omega
              have hi5 : (i : Int) < m := by omega
              have HLD : Hid (Laid wr wr.drew) := (Laid.refl wr).drew
              clear hli
              by_cases hE : endsI (y0, y1, y2) (z0, z1, z2) = 0
              · have HE' : Hid (∀ wx, Calls Try.prog 40 #[.agg #[.int .i64 y0, .int .i64 y1, .int .i64 y2], .agg #[.int .i64 z0, .int .i64 z1, .int .i64 z2]] wx fun e w' => e = .returned (.bool true) ∧ Laid wx w') := fun wx => by have h := HE.out wx; rw [show (endsI (y0, y1, y2) (z0, z1, z2) == 0) = true by simpa using hE] at h; exact h
                have HZ : Hid (endsI d[k + i]! d[k + i - 1]! = 0) := by rw [show k + i - 1 = k + l by have := HLI.out; omega, HY.out.1, HY.out.2]; exact hE
                clear HE hE
                go_wp2_with fail
                go_region_held3 (fun w' => w'.cell? ⟨b, o + k * 3 + i * 3, none⟩ = some (.int .i64 y0) ∧ w'.cell? ⟨b, o + k * 3 + i * 3 + 1, none⟩ = some (.int .i64 y1) ∧ w'.cell? ⟨b, o + k * 3 + i * 3 + 2, none⟩ = some (.int .i64 y2) ∧ w'.cell? ⟨b, o + k * 3 + l * 3, none⟩ = some (.int .i64 z0) ∧ w'.cell? ⟨b, o + k * 3 + l * 3 + 1, none⟩ = some (.int .i64 z1) ∧ w'.cell? ⟨b, o + k * 3 + l * 3 + 2, none⟩ = some (.int .i64 z2)) (go_keep) (first
                  | (go_at_call 40; refine (HE'.out _).mono ?_; rintro e w2 ⟨rfl, hL2⟩; have HL2 : Hid (Laid wr w2) := HLD.out.trans hL2; obtain ⟨⟨g0, g1, g2⟩, g3, g4, g5⟩ := HCL.out w2 HL2.out; clear hL2))
                all_goals
                  have HC3 : Hid (CI w b o d w2 D kk (k + (i + 1))) := (HC.out.laid HL2.out).skip (by omega) HZ.out
                  go_wp2
                  go_roundw
                  case rel => exact ⟨kk, i + 1, D, rfl, by go_num, by omega, by omega, by omega, HC3.out⟩
                  case measure => simp [intOf]; omega
              · have HE' : Hid (∀ wx, Calls Try.prog 40 #[.agg #[.int .i64 y0, .int .i64 y1, .int .i64 y2], .agg #[.int .i64 z0, .int .i64 z1, .int .i64 z2]] wx fun e w' => e = .returned (.bool false) ∧ Laid wx w') := fun wx => by have h := HE.out wx; rw [show (endsI (y0, y1, y2) (z0, z1, z2) == 0) = false by simpa using hE] at h; exact h
                have HZ : Hid (endsI d[k + i]! d[k + i - 1]! ≠ 0) := by rw [show k + i - 1 = k + l by have := HLI.out; omega, HY.out.1, HY.out.2]; exact hE
                clear HE hE
                go_wp2_with fail
                go_region_held3 (fun w' => w'.cell? ⟨b, o + k * 3 + i * 3, none⟩ = some (.int .i64 y0) ∧ w'.cell? ⟨b, o + k * 3 + i * 3 + 1, none⟩ = some (.int .i64 y1) ∧ w'.cell? ⟨b, o + k * 3 + i * 3 + 2, none⟩ = some (.int .i64 y2) ∧ w'.cell? ⟨b, o + k * 3 + l * 3, none⟩ = some (.int .i64 z0) ∧ w'.cell? ⟨b, o + k * 3 + l * 3 + 1, none⟩ = some (.int .i64 z1) ∧ w'.cell? ⟨b, o + k * 3 + l * 3 + 2, none⟩ = some (.int .i64 z2)) (go_keep) (first
                  | (go_at_call 40; refine (HE'.out _).mono ?_; rintro e w2 ⟨rfl, hL2⟩; have HL2 : Hid (Laid wr w2) := HLD.out.trans hL2; obtain ⟨⟨g0, g1, g2⟩, g3, g4, g5⟩ := HCL.out w2 HL2.out; clear hL2))
                all_goals
                  have hC2 := HC.out.laid HL2.out
                  obtain ⟨⟨a0, a1, a2⟩, f0, f1, f2⟩ := holds_at hC2.holds kk (by have := hC2.sz; have := HN.out; omega)
                  have HC3 : Hid (CI w b o d (((w2.setCell ⟨b, o + kk * 3, none⟩ (.int .i64 y0)).setCell ⟨b, o + kk * 3 + 1, none⟩ (.int .i64 y1)).setCell ⟨b, o + kk * 3 + 2, none⟩ (.int .i64 y2)) (D.setIfInBounds kk d[k + i]!) (kk + 1) (k + (i + 1))) := by
                    have h := hC2.put hkk (by have := HN.out; omega) HZ.out
                    rw [HY.out.1] at h
                    rw [HY.out.1]
                    exact h
                  clear hC2 HC HCL HL2 HZ HE' HY HLD c0 c1 c2 c3 c4 c5
                  go_wp2
                  go_roundw
                  case rel => exact ⟨kk + 1, i + 1, _, by go_num, by go_num, by omega, by omega, by omega, HC3.out⟩
                  case measure => simp [intOf]; omega
            · obtain rfl : i = m := by omega
              obtain ⟨m', hm'⟩ : ∃ m', kk + m' = n := ⟨n - kk, by omega⟩
              have hsl : ∀ wx, (Instr.slice 22 (.slice (some ⟨b, o, none⟩) n cap) (some (.int .i64 (kk : Int))) none none).run Try.prog wx = .ok (.slice (some ⟨b, o + kk * 3, none⟩) m' (cap - kk)) wx := fun wx => slice_from wx b o n m' cap kk hm'.symm (by omega) hcap
              have hsh : ∀ wx, (Instr.slice 22 (.slice (some ⟨b, o, none⟩) n cap) none (some (.int .i64 (kk : Int))) none).run Try.prog wx = .ok (.slice (some ⟨b, o, none⟩) kk cap) wx := fun wx => slice_to wx b o n cap kk (by omega) (by omega)
              obtain ⟨W8, hW8⟩ : ∃ W8, wr.setCells b (o + kk * 3) (wiped m') = W8 := ⟨_, rfl⟩
              have hcl : (Builtin.clear_ #[22] 0 #[.slice (some ⟨b, o + kk * 3, none⟩) m' (cap - kk)]).run Try.prog wr = .ok (.tuple #[]) W8 := by
                rw [← hW8]
                have hs := HC.out.sz
                have hn := HN.out
                refine clear_run b (o + kk * 3) m' (cap - kk) wr (by omega) (fun j hj => ?_) (fun j hj => ?_)
                · have h := (HC.out.holds (kk * 3 + j) (by rw [size_flatK]; omega)).1
                  rw [Nat.add_assoc, h]; rfl
                · have h := (HC.out.holds (kk * 3 + j) (by rw [size_flatK]; omega)).2
                  rw [Nat.add_assoc]; exact h
              have HF : Hid ((comp d n).length = kk ∧ HasArcs W8 (.slice (some ⟨b, o, none⟩) kk cap) (comp d n) ∧ Touch b w W8) := by
                have h := HC.out
                rw [← HM.out] at h
                have hd := h.done (by have := HN.out; omega) cap (wiped m')
                rw [hW8] at hd
                exact ⟨h.len, hd⟩
              clear HC hW8
              go_wp2
              go_ret
              rw [HF.out.1]
              exact ⟨rfl, HF.out.2⟩
      · have HE' : Hid (∀ wx, Calls Try.prog 40 #[.agg #[.int .i64 x0, .int .i64 x1, .int .i64 x2], .agg #[.int .i64 p0, .int .i64 p1, .int .i64 p2]] wx fun e w' => e = .returned (.bool false) ∧ Laid wx w') := fun wx => by have h := HE.out wx; rw [show (endsI (x0, x1, x2) (p0, p1, p2) == 0) = false by simpa using hE] at h; exact h
        have HZ : Hid (endsI d[k]! d[k - 1]! ≠ 0) := by rw [show k - 1 = j by have := HKJ.out; omega, HX.out.1, HX.out.2]; exact hE
        clear HE hE
        go_wp2_with fail
        go_region_held3 (fun w' => w'.cell? ⟨b, o + k * 3, none⟩ = some (.int .i64 x0) ∧ w'.cell? ⟨b, o + k * 3 + 1, none⟩ = some (.int .i64 x1) ∧ w'.cell? ⟨b, o + k * 3 + 2, none⟩ = some (.int .i64 x2) ∧ w'.cell? ⟨b, o + j * 3, none⟩ = some (.int .i64 p0) ∧ w'.cell? ⟨b, o + j * 3 + 1, none⟩ = some (.int .i64 p1) ∧ w'.cell? ⟨b, o + j * 3 + 2, none⟩ = some (.int .i64 p2)) (go_keep) (first
          | (go_at_call 40; refine (HE'.out _).mono ?_; rintro e w1 ⟨rfl, hL1⟩; have HL1 : Hid (Laid wr w1) := HLD.out.trans hL1; obtain ⟨⟨g0, g1, g2⟩, g3, g4, g5⟩ := HCL.out w1 HL1.out; clear hL1))
        all_goals
          have HC2 : Hid (CI w b o d w1 d (k + 1) (k + 1)) := (HC.out.laid HL1.out).add (Or.inr HZ.out)
          go_wp2
          go_roundw
          case rel => exact ⟨k + 1, by omega, by omega, by go_num, HC2.out⟩
          case measure => simp [intOf]; omega
    · obtain rfl : k = n := by omega
      have HF : Hid (HasArcs wr (.slice (some ⟨b, o, none⟩) k cap) (comp d k) ∧ (comp d k).length = k ∧ Touch b w wr) := ⟨HC.out.arcs (by have := HN.out; omega) cap, HC.out.len, HC.out.touch⟩
      go_wp2
      go_ret
      rw [HF.out.2.1]
      exact ⟨rfl, HF.out.1, HF.out.2.2⟩
end Go.Proofs.Ytefcmpdnlbpjpaa
