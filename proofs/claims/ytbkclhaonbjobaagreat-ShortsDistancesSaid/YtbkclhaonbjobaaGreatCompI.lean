/- What compacting keeps of a row of arcs, and the row in memory while it is compacted. -/
import Derived.Test.YtbkclhaonbjobaaGreatOf
namespace Go.Proofs.YtbkclhaonbjobaaGreat
open Go.RowKit Go.Extern Go.Sort Go.Shelf

/-- of the first k arcs of a row those that are not parallel to the one ahead of them. -/
def comp (d : Array (Int × Int × Int)) (k : Nat) : List (Int × Int × Int) := ((List.range k).filter fun j => j == 0 || endsI d[j]! d[j - 1]! != 0).map fun j => d[j]!
theorem comp_succ (d : Array (Int × Int × Int)) (k : Nat) : comp d (k + 1) = comp d k ++ (if (k == 0 || endsI d[k]! d[k - 1]! != 0) = true then [d[k]!] else []) := by
  unfold comp
  rw [List.range_succ, List.filter_append, List.map_append]
  congr 1
  cases hc : (k == 0 || endsI d[k]! d[k - 1]! != 0) with
  | true => simp only [List.filter, hc, if_true]; rfl
  | false => simp only [List.filter, hc, Bool.false_eq_true, if_false]; rfl
theorem comp_len (d : Array (Int × Int × Int)) (k : Nat) : (comp d k).length ≤ k := by
  unfold comp
  rw [List.length_map]
  exact Nat.le_trans (List.length_filter_le _ _) (by simp)
theorem comp_same {d : Array (Int × Int × Int)} {k : Nat} (hk : 0 < k) (h : endsI d[k]! d[k - 1]! = 0) : comp d (k + 1) = comp d k := by
  rw [comp_succ, if_neg (by simp [h]; omega), List.append_nil]
theorem comp_new {d : Array (Int × Int × Int)} {k : Nat} (h : k = 0 ∨ endsI d[k]! d[k - 1]! ≠ 0) : comp d (k + 1) = comp d k ++ [d[k]!] := by
  rw [comp_succ, if_pos (by simp; exact h)]

section
variable {w : World} {b o : Nat} {D : Array (Int × Int × Int)}
theorem holds_at (h : HoldsK encA 3 w b o D) (i : Nat) (hi : i < D.size) : (w.cell? ⟨b, o + i * 3, none⟩ = some (.int .i64 D[i]!.1) ∧ w.cell? ⟨b, o + i * 3 + 1, none⟩ = some (.int .i64 D[i]!.2.1) ∧ w.cell? ⟨b, o + i * 3 + 2, none⟩ = some (.int .i64 D[i]!.2.2)) ∧ w.frozen? ⟨b, o + i * 3, none⟩ = false ∧ w.frozen? ⟨b, o + i * 3 + 1, none⟩ = false ∧ w.frozen? ⟨b, o + i * 3 + 2, none⟩ = false := by
  have hh : ∀ c, c < 3 → w.cell? ⟨b, o + (i * 3 + c), none⟩ = some (encA D[i]!)[c]! ∧ w.frozen? ⟨b, o + (i * 3 + c), none⟩ = false := fun c hc => by
    have h1 := h (i * 3 + c) (by rw [size_flatK]; omega)
    rw [get_flatK _ _ _ _ (by omega), show (i * 3 + c) / 3 = i by omega, show (i * 3 + c) % 3 = c by omega] at h1
    exact h1
  obtain ⟨a0, f0⟩ := hh 0 (by omega)
  obtain ⟨a1, f1⟩ := hh 1 (by omega)
  obtain ⟨a2, f2⟩ := hh 2 (by omega)
  exact ⟨⟨a0, a1, a2⟩, f0, f1, f2⟩
theorem holds_keep {w' : World} (h : HoldsK encA 3 w b o D) (hb : w'.heap[b]? = w.heap[b]?) : HoldsK encA 3 w' b o D := fun j hj =>
  ⟨(World.cell?_of_block hb).trans (h j hj).1, (World.frozen?_of_block hb).trans (h j hj).2⟩
theorem holds_put (h : HoldsK encA 3 w b o D) (i : Nat) (hi : i < D.size) (x : Int × Int × Int) : HoldsK encA 3 (w.setCells b (o + i * 3) (encA x)) b o (D.setIfInBounds i x) := fun j hj => by
  rw [size_flatK, Array.size_setIfInBounds] at hj
  have hj' : j < (flatK encA 3 D).size := by rw [size_flatK]; exact hj
  obtain ⟨h1, h2⟩ := h j hj'
  refine ⟨?_, by rw [World.frozen?_setCells]; exact h2⟩
  rw [get_flatK _ _ _ _ (by simpa using hj)]
  rw [get_flatK _ _ _ _ hj] at h1
  by_cases e : j / 3 = i
  · obtain ⟨c, rfl⟩ : ∃ c, j = i * 3 + c := ⟨j - i * 3, by omega⟩
    have hc : c < (encA x).length := by simp [encA]; omega
    have hin := World.cell?_setCells_in b (encA x) (o + i * 3) w (fun c' hc' => by
      have := (h (i * 3 + c') (by rw [size_flatK]; simp [encA] at hc'; omega)).1
      rw [Nat.add_assoc, this]; rfl) c hc
    rw [Nat.add_assoc] at hin
    rw [e, getElem!_set_same _ _ _ hi, hin]
    show some (encA x)[c] = some (encA x)[(i * 3 + c) % 3]!
    simp [encA] at hc
    rw [show (i * 3 + c) % 3 = c by omega, getElem!_pos (encA x) c (by simp [encA]; omega)]
  · rw [World.cell?_setCells_out _ _ _ _ _ (fun _ _ => by simp [encA]; omega), getElem!_set_other _ _ _ _ e]
    exact h1
end
theorem Touch.cells {b : Nat} {w : World} : ∀ (vs : List Value) (o : Nat) {w' : World}, Touch b w w' → Touch b w (w'.setCells b o vs)
  | [], _, _, h => h
  | v :: r, o, _, h => Touch.cells r (o + 1) ⟨h.os, h.tape, h.output, by simpa using h.size, fun k hk hne => (heap_setCell_other _ _ _ _ hne).trans (h.block k hk hne)⟩
theorem size_cells {b : Nat} : ∀ (vs : List Value) (o : Nat) (w : World), (w.setCells b o vs).heap.size = w.heap.size
  | [], _, _ => rfl
  | v :: r, o, w => (size_cells r (o + 1) _).trans (by simp)
theorem Touch.laid {b : Nat} {w w' wx : World} (h : Touch b w w') (hl : Laid w' wx) : Touch b w wx :=
  ⟨hl.below.os.trans h.os, hl.below.tape.trans h.tape, hl.below.output.trans h.output, Nat.le_trans h.size hl.size, fun k hk hne => (hl.block (Nat.lt_of_lt_of_le hk h.size)).trans (h.block k hk hne)⟩

/-- p arcs have been looked at; the row's first kk are those kept; from the last one looked at on the row is as it was. -/
structure CI (w : World) (b o : Nat) (d : Array (Int × Int × Int)) (wr : World) (D : Array (Int × Int × Int)) (kk p : Nat) : Prop where
  sz : D.size = d.size
  holds : HoldsK encA 3 wr b o D
  lt : b < wr.heap.size
  len : (comp d p).length = kk
  front : ∀ i, i < kk → (comp d p)[i]? = some D[i]!
  rest : ∀ i, p ≤ i + 1 → i < d.size → D[i]! = d[i]!
  touch : Touch b w wr
section
variable {w wr : World} {b o kk p : Nat} {d D : Array (Int × Int × Int)}
theorem CI.laid {wx : World} (h : CI w b o d wr D kk p) (hl : Laid wr wx) : CI w b o d wx D kk p :=
  ⟨h.sz, holds_keep h.holds (hl.block h.lt), Nat.lt_of_lt_of_le h.lt hl.size, h.len, h.front, h.rest, h.touch.laid hl⟩
theorem CI.skip (h : CI w b o d wr D kk p) (hp : 0 < p) (he : endsI d[p]! d[p - 1]! = 0) : CI w b o d wr D kk (p + 1) := by
  have e := comp_same hp he
  exact ⟨h.sz, h.holds, h.lt, by rw [e]; exact h.len, by rw [e]; exact h.front, fun i hi => h.rest i (by omega), h.touch⟩
theorem CI.add (h : CI w b o d wr d p p) (he : p = 0 ∨ endsI d[p]! d[p - 1]! ≠ 0) : CI w b o d wr d (p + 1) (p + 1) := by
  have e := comp_new he
  refine ⟨rfl, h.holds, h.lt, by rw [e, List.length_append, h.len]; rfl, fun i hi => ?_, fun _ _ _ => rfl, h.touch⟩
  rw [e]
  by_cases hlt : i < p
  · rw [List.getElem?_append_left (by rw [h.len]; exact hlt)]; exact h.front i hlt
  · obtain rfl : i = p := by omega
    rw [List.getElem?_append_right (by rw [h.len]; omega), h.len]; simp
theorem CI.put (h : CI w b o d wr D kk p) (hk : kk < p) (hp : p < d.size) (he : endsI d[p]! d[p - 1]! ≠ 0) : CI w b o d (wr.setCells b (o + kk * 3) (encA d[p]!)) (D.setIfInBounds kk d[p]!) (kk + 1) (p + 1) := by
  have e := comp_new (Or.inr he)
  have hkD : kk < D.size := by rw [h.sz]; omega
  refine ⟨by simp [h.sz], holds_put h.holds kk hkD _, by rw [size_cells]; exact h.lt, by rw [e, List.length_append, h.len]; rfl, fun i hi => ?_, fun i hi hi2 => ?_, h.touch.cells _ _⟩
  · rw [e]
    by_cases hlt : i < kk
    · rw [List.getElem?_append_left (by rw [h.len]; exact hlt), getElem!_set_other _ _ _ _ (by omega)]; exact h.front i hlt
    · obtain rfl : i = kk := by omega
      rw [List.getElem?_append_right (by rw [h.len]; omega), h.len, getElem!_set_same _ _ _ hkD]; simp
  · rw [getElem!_set_other _ _ _ _ (by omega)]; exact h.rest i (by omega) hi2
theorem CI.start (hH : HoldsK encA 3 w b o d) (hb : b < w.heap.size) : CI w b o d w d 1 1 :=
  CI.add ⟨rfl, hH, hb, rfl, fun i hi => by omega, fun _ _ _ => rfl, ⟨rfl, rfl, rfl, Nat.le_refl _, fun _ _ _ => rfl⟩⟩ (Or.inl rfl)
/-- what is kept lies in memory. -/
theorem CI.arcs (h : CI w b o d wr D kk p) (hk : kk ≤ d.size) (cap : Nat) : HasArcs wr (.slice (some ⟨b, o, none⟩) kk cap) (comp d p) := by
  refine ⟨_, _, by rw [h.len], fun j a hj => ?_⟩
  have hlt : j < kk := by have := (List.getElem?_eq_some_iff.1 hj).1; rw [h.len] at this; exact this
  obtain rfl : D[j]! = a := Option.some.inj ((h.front j hlt).symm.trans hj)
  obtain ⟨⟨c0, c1, c2⟩, _⟩ := holds_at h.holds j (by rw [h.sz]; omega)
  exact ⟨b, o, rfl, h.lt, c0, c1, c2⟩
end
theorem Tryz.elem22 : Tryz.prog.underlying 22 = some (.slice (Tryz.prog.elem 22)) := by kernel_rfl
theorem Tryz.size22 (w : World) : (sizeOf (Tryz.prog.elem 22)).run Tryz.prog w = .ok 3 w := by kernel_rfl
/-- 's[i:]', i below its length. -/
theorem slice_from (w : World) (b o n m cap i : Nat) (h : n = i + m) (hm : 0 < m) (hc : n ≤ cap) : (Instr.slice 22 (.slice (some ⟨b, o, none⟩) n cap) (some (.int .i64 (i : Int))) none none).run Tryz.prog w = .ok (.slice (some ⟨b, o + i * 3, none⟩) m (cap - i)) w := by
  rw [run_slice_l (ht := Tryz.elem22) (h0 := by omega) (h1 := by omega), Tryz.size22]
  have e2 : (i : Int).toNat = i := by omega
  simp only [Result.andThen_ok, sliced, e2]
  rw [if_neg (by omega)]
  simp [Addr.add]
  omega
/-- 's[:i]'. -/
theorem slice_to (w : World) (b o n cap i : Nat) (h : i ≤ cap) (hc : 0 < cap) : (Instr.slice 22 (.slice (some ⟨b, o, none⟩) n cap) none (some (.int .i64 (i : Int))) none).run Tryz.prog w = .ok (.slice (some ⟨b, o, none⟩) i cap) w := by
  rw [run_slice_h (ht := Tryz.elem22) (h0 := by omega) (h2 := by omega), Tryz.size22]
  have e2 : (i : Int).toNat = i := by omega
  simp only [Result.andThen_ok, sliced, e2]
  rw [if_neg (by omega)]
  simp [Addr.add]
/-- the cells of arcs, wiped. -/
def wiped (m : Nat) : List Value := (Builtin.zeroCells #[.int .i64 0, .int .i64 0, .int .i64 0] m).toList
theorem wiped_len (m : Nat) : (wiped m).length = m * 3 := by simp [wiped, Builtin.zeroCells]
theorem wiped_one (m : Nat) : ∀ v ∈ wiped m, v.oneCell' = true := fun v hv => by
  simp only [wiped, Builtin.zeroCells] at hv
  simp at hv
  obtain ⟨a, _, rfl⟩ := hv
  rcases (show a % 3 = 0 ∨ a % 3 = 1 ∨ a % 3 = 2 by omega) with h | h | h <;> rw [h] <;> rfl
/-- 'clear(s)' of arcs. -/
theorem clear_run (b o m c : Nat) (W : World) (hm : 0 < m) (hc : ∀ j, j < m * 3 → (W.cell? ⟨b, o + j, none⟩).isSome = true) (hf : ∀ j, j < m * 3 → W.frozen? ⟨b, o + j, none⟩ = false) :
    (Builtin.clear_ #[22] 0 #[.slice (some ⟨b, o, none⟩) m c]).run Tryz.prog W = .ok (.tuple #[]) (W.setCells b o (wiped m)) := by
  have hst := run_storeCells_cells (P := Tryz.prog) b o (wiped m) 0 W (by rw [wiped_len]; simpa using hc) (by rw [wiped_len]; simpa using hf) (wiped_one m)
  simp only [Nat.add_zero] at hst
  obtain ⟨m, rfl⟩ : ∃ k, m = k + 1 := ⟨m - 1, by omega⟩
  have hz := Tryz.zeroValue84
  unfold wiped at *
  simp [Builtin.clear_, run_underlying Tryz.underlying22, hz, Value.cells, hst]
end Go.Proofs.YtbkclhaonbjobaaGreat
