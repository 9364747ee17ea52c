/- what is counted of a graph: for each node the arcs that leave it and the arcs that enter it. -/
import Derived.Test.YtbfopkhdngfanaaInts
import Derived.Test.YtbfopkhdngfanaaDocRev
import Derived.Deep.OwnRows
namespace Go.Proofs.Ytbfopkhdngfanaa
open Go.RowKit Go.Extern

/-- how often a number stands in a list. -/
def cnt : List Int → Int → Int
  | [], _ => 0
  | a :: l, v => (if a = v then 1 else 0) + cnt l v
theorem cnt_append (l r : List Int) (v : Int) : cnt (l ++ r) v = cnt l v + cnt r v := by
  induction l with
  | nil => simp [cnt]
  | cons a l ih => simp only [List.cons_append, cnt, ih]; omega
theorem cnt_bound (l : List Int) (v : Int) : 0 ≤ cnt l v ∧ cnt l v ≤ l.length := by
  induction l with
  | nil => simp [cnt]
  | cons a l ih => simp only [cnt, List.length_cons]; split <;> omega
theorem take_next {α : Type} {xs : List α} {k : Nat} {a : α} (h : xs[k]? = some a) : xs.take (k + 1) = xs.take k ++ [a] := by
  rw [List.take_add_one, h]; rfl
/-- the ends of the first k arcs. -/
def outs (xs : List (Int × Int × Int)) (k : Nat) : List Int := (xs.take k).map (·.1)
def ins (xs : List (Int × Int × Int)) (k : Nat) : List Int := (xs.take k).map (·.2.1)
theorem outs_next {xs : List (Int × Int × Int)} {k : Nat} {a : Int × Int × Int} (h : xs[k]? = some a) (v : Int) : cnt (outs xs (k + 1)) v = if a.1 = v then cnt (outs xs k) v + 1 else cnt (outs xs k) v := by
  unfold outs; rw [take_next h, List.map_append, cnt_append]
  show _ + ((if a.1 = v then 1 else 0) + 0) = _
  split <;> omega
theorem ins_next {xs : List (Int × Int × Int)} {k : Nat} {a : Int × Int × Int} (h : xs[k]? = some a) (v : Int) : cnt (ins xs (k + 1)) v = if a.2.1 = v then cnt (ins xs k) v + 1 else cnt (ins xs k) v := by
  unfold ins; rw [take_next h, List.map_append, cnt_append]
  show _ + ((if a.2.1 = v then 1 else 0) + 0) = _
  split <;> omega
theorem outs_bound (xs : List (Int × Int × Int)) (k : Nat) (v : Int) : 0 ≤ cnt (outs xs k) v ∧ cnt (outs xs k) v ≤ xs.length := by
  have h := cnt_bound (outs xs k) v
  have h2 : (outs xs k).length ≤ xs.length := by simp [outs]; omega
  omega
theorem ins_bound (xs : List (Int × Int × Int)) (k : Nat) (v : Int) : 0 ≤ cnt (ins xs k) v ∧ cnt (ins xs k) v ≤ xs.length := by
  have h := cnt_bound (ins xs k) v
  have h2 : (ins xs k).length ≤ xs.length := by simp [ins]; omega
  omega

theorem firstBad_none (N : Int) : ∀ (xs : List (Int × Int × Int)) (i : Nat), firstBad N xs i = none → ∀ (k : Nat) (a : Int × Int × Int), xs[k]? = some a → arcBad N a = 0
  | [], _, _, _, _, h => by cases h
  | b :: r, i, hf, k, a, h => by
    rw [firstBad] at hf
    split at hf
    · rename_i hz
      cases k with
      | zero => cases h; exact hz
      | succ k => exact firstBad_none N r (i + 1) hf k a h
    · cases hf
theorem graph_good {N : Int} {xs : List (Int × Int × Int)} (h : graphErr N xs = (0, [])) : 0 ≤ N ∧ N ≤ 65536 ∧ xs.length ≤ 262144 ∧ ∀ (k : Nat) (a : Int × Int × Int), xs[k]? = some a → 0 ≤ a.1 ∧ a.1 < N ∧ 0 ≤ a.2.1 ∧ a.2.1 < N := by
  unfold graphErr at h
  split at h
  · simp at h
  · rename_i hlim
    have hfb : firstBad N xs 0 = none := by
      cases hf : firstBad N xs 0 with
      | none => rfl
      | some q =>
        rw [hf] at h
        have := firstBad_ne N xs 0 q hf
        obtain ⟨q1, q2⟩ := q
        simp at h
    refine ⟨by omega, by omega, by omega, fun k a ha => ?_⟩
    have hz := firstBad_none N xs 0 hfb k a ha
    unfold arcBad at hz
    split at hz
    · cases hz
    · omega

theorem made_cell (z : Value) (n j : Nat) (h : j < n) : (madeCells #[z] n)[j]? = some z := by
  simp [madeCells, h, Nat.mod_one]

/-- what holds at each round: the two rows of numbers, and nothing of old turned. -/
structure DegI (W : World) (F T n : Nat) (xs : List (Int × Int × Int)) (k : Nat) (wr : World) : Prop where
  cf : ∀ v : Nat, v < n → wr.cell? ⟨F, v, none⟩ = some (.int .i64 (cnt (outs xs k) v))
  ct : ∀ v : Nat, v < n → wr.cell? ⟨T, v, none⟩ = some (.int .i64 (cnt (ins xs k) v))
  ff : ∀ o, wr.frozen? ⟨F, o, none⟩ = false
  ft : ∀ o, wr.frozen? ⟨T, o, none⟩ = false
  lf : F < wr.heap.size
  lt : T < wr.heap.size
  hf : W.heap.size ≤ F
  ht : W.heap.size ≤ T
  ne : F ≠ T
  below : Below W.heap.size W wr
theorem DegI.keep {W : World} {F T n : Nat} {xs : List (Int × Int × Int)} {k : Nat} {wr wn : World} (h : DegI W F T n xs k wr) (hb : Below wr.heap.size wr wn) : DegI W F T n xs k wn := by
  refine ⟨fun v hv => (hb.cell (p := ⟨F, v, none⟩) h.lf).trans (h.cf v hv), fun v hv => (hb.cell (p := ⟨T, v, none⟩) h.lt).trans (h.ct v hv), fun o => ?_, fun o => ?_, Nat.lt_of_lt_of_le h.lf hb.size, Nat.lt_of_lt_of_le h.lt hb.size, h.hf, h.ht, h.ne, h.below.trans (hb.mono h.below.size)⟩
  · have := h.ff o
    simp only [World.frozen?, hb.block _ h.lf] at *
    exact this
  · have := h.ft o
    simp only [World.frozen?, hb.block _ h.lt] at *
    exact this
theorem DegI.next {W : World} {F T n : Nat} {xs : List (Int × Int × Int)} {k : Nat} {wr : World} (h : DegI W F T n xs k wr) {i j : Nat} {c : Int} (ha : xs[k]? = some ((i : Int), (j : Int), c)) (hi : i < n) (hj : j < n) :
    DegI W F T n xs (k + 1) ((wr.setCell ⟨F, i, none⟩ (.int .i64 (cnt (outs xs k) i + 1))).setCell ⟨T, j, none⟩ (.int .i64 (cnt (ins xs k) j + 1))) := by
  have hx : ∀ (b x y : Nat), x ≠ y → (⟨b, x, none⟩ : Addr) ≠ ⟨b, y, none⟩ := fun b x y hxy e => hxy (congrArg Addr.off e)
  have hFT : ∀ x y : Nat, (⟨F, x, none⟩ : Addr) ≠ ⟨T, y, none⟩ := fun x y e => h.ne (congrArg Addr.block e)
  have hTF : ∀ x y : Nat, (⟨T, x, none⟩ : Addr) ≠ ⟨F, y, none⟩ := fun x y e => h.ne (congrArg Addr.block e).symm
  refine ⟨fun v hv => ?_, fun v hv => ?_, fun o => by simp; exact h.ff o, fun o => by simp; exact h.ft o, by simp; exact h.lf, by simp; exact h.lt, h.hf, h.ht, h.ne, ?_⟩
  · rw [World.cell?_setCell_other _ _ _ _ (hTF _ _), outs_next ha]
    by_cases e : i = v
    · subst e
      rw [World.cell?_setCell_same _ _ _ (h.cf i hi), if_pos rfl]
    · rw [World.cell?_setCell_other _ _ _ _ (hx F _ _ e), if_neg (show ¬ ((_ : Nat) : Int) = ((v : Nat) : Int) by omega)]
      exact h.cf v hv
  · rw [ins_next ha]
    by_cases e : j = v
    · subst e
      rw [World.cell?_setCell_same _ _ _ ((World.cell?_setCell_other _ _ _ _ (hFT _ _)).trans (h.ct j hj)), if_pos rfl]
    · rw [World.cell?_setCell_other _ _ _ _ (hx T _ _ e), World.cell?_setCell_other _ _ _ _ (hFT _ _), if_neg (show ¬ ((_ : Nat) : Int) = ((v : Nat) : Int) by omega)]
      exact h.ct v hv
  · exact (h.below.setCell (p := ⟨F, i, none⟩) h.hf _).setCell (p := ⟨T, j, none⟩) h.ht _
/-- the two rows when they are made. -/
theorem DegI.start (W wr : World) (F T n : Nat) (xs : List (Int × Int × Int)) (hF : wr.heap[F]? = some (.cells (madeCells #[.int .i64 0] n) 3)) (hT : wr.heap[T]? = some (.cells (madeCells #[.int .i64 0] n) 3)) (hf : W.heap.size ≤ F) (ht : W.heap.size ≤ T) (hne : F ≠ T) (hb : Below W.heap.size W wr) : DegI W F T n xs 0 wr := by
  refine ⟨fun v hv => ?_, fun v hv => ?_, fun o => by simp [World.frozen?, hF], fun o => by simp [World.frozen?, hT], lt_of_get hF, lt_of_get hT, hf, ht, hne, hb⟩
  · simp only [World.cell?, hF, if_neg (show ¬ (none : Option Nat).isSome = true by simp)]
    simp [made_cell _ n v hv, outs, cnt]
  · simp only [World.cell?, hT]
    simp [made_cell _ n v hv, ins, cnt]
/-- a list that lies in new memory. -/
def NewV (w : World) (v : Value) : Prop := ∀ b off n c, v = .slice (some ⟨b, off, none⟩) n c → w.heap.size ≤ b
theorem newV_nil (w : World) (n c : Nat) : NewV w (.slice none n c) := fun b off m d e => by cases e
theorem newV_at {w : World} {F n c : Nat} (h : w.heap.size ≤ F) : NewV w (.slice (some ⟨F, 0, none⟩) n c) := fun b off m d e => by cases e; exact h
/-- the numbers as lists. -/
def outL (n : Nat) (xs : List (Int × Int × Int)) : List Int := (List.range n).map fun v => cnt (outs xs xs.length) (v : Nat)
def inL (n : Nat) (xs : List (Int × Int × Int)) : List Int := (List.range n).map fun v => cnt (ins xs xs.length) (v : Nat)
theorem DegI.outs {W : World} {F T n : Nat} {xs : List (Int × Int × Int)} {wr : World} (h : DegI W F T n xs xs.length wr) (cap : Nat) : HasInts wr (.slice (some ⟨F, 0, none⟩) n cap) (outL n xs) := by
  refine ⟨_, cap, by simp [outL], fun j a hj => ⟨F, 0, rfl, h.lf, ?_⟩⟩
  simp only [outL, List.getElem?_map, Option.map_eq_some_iff] at hj
  obtain ⟨v, hv, rfl⟩ := hj
  obtain ⟨hlt, e⟩ := List.getElem?_eq_some_iff.1 hv
  simp at hlt e
  subst e
  rw [Nat.zero_add]
  exact h.cf _ hlt
theorem DegI.ins {W : World} {F T n : Nat} {xs : List (Int × Int × Int)} {wr : World} (h : DegI W F T n xs xs.length wr) (cap : Nat) : HasInts wr (.slice (some ⟨T, 0, none⟩) n cap) (inL n xs) := by
  refine ⟨_, cap, by simp [inL], fun j a hj => ⟨T, 0, rfl, h.lt, ?_⟩⟩
  simp only [inL, List.getElem?_map, Option.map_eq_some_iff] at hj
  obtain ⟨v, hv, rfl⟩ := hj
  obtain ⟨hlt, e⟩ := List.getElem?_eq_some_iff.1 hv
  simp at hlt e
  subst e
  rw [Nat.zero_add]
  exact h.ct _ hlt
end Go.Proofs.Ytbfopkhdngfanaa
