/- The normal list of arcs: what is sorted and compacted is what putting arc by arc into a list makes. normal.Reverse: the arcs turned about, in new memory; beside an error nothing. normal.Of, whatever it is handed: the document's normal list, or the error. What the normal graph of a graph is, turned about or made normal twice; and the program's calls at right graphs, told by lists. -/
import Derived.Test.YtbkclhaonbjobaaGreatCompI
import Derived.Test.YtbkclhaonbjobaaGreatOf
import Derived.Test.YtbkclhaonbjobaaGreatCompAll
namespace Go.Proofs.YtbkclhaonbjobaaGreat
open Go.RowKit Go.Extern Go.Sort Go.Shelf

/-- an arc's ends stand ahead of another's. -/
def lessA (a b : Int × Int × Int) : Prop := a.1 < b.1 ∨ a.1 = b.1 ∧ a.2.1 < b.2.1
instance (a b : Int × Int × Int) : Decidable (lessA a b) := by unfold lessA; infer_instance
/-- parallel arcs. -/
def sameA (a b : Int × Int × Int) : Prop := a.1 = b.1 ∧ a.2.1 = b.2.1
instance (a b : Int × Int × Int) : Decidable (sameA a b) := by unfold sameA; infer_instance
theorem endsI_zero (a b : Int × Int × Int) : endsI a b = 0 ↔ sameA a b := by
  unfold endsI orI cmpI sameA
  by_cases h0 : a.1 < b.1 <;> by_cases h1 : b.1 < a.1 <;> by_cases h2 : a.2.1 < b.2.1 <;> by_cases h3 : b.2.1 < a.2.1 <;> simp [h0, h1, h2, h3] <;> omega
theorem sameA_less {a b c : Int × Int × Int} (h : sameA a b) (h2 : lessA b c) : lessA a c := by unfold sameA lessA at *; omega
theorem less_trans {a b c : Int × Int × Int} (h : lessA a b) (h2 : lessA b c) : lessA a c := by unfold lessA at *; omega
theorem less_not_same {a b : Int × Int × Int} (h : lessA a b) : ¬ sameA a b ∧ ¬ sameA b a ∧ ¬ lessA b a := by unfold lessA sameA at *; omega
theorem less_total {a b : Int × Int × Int} (h : ¬ lessA a b) (h2 : ¬ sameA a b) : lessA b a := by unfold lessA sameA at *; omega
theorem sameA.symm {a b : Int × Int × Int} (h : sameA a b) : sameA b a := ⟨h.1.symm, h.2.symm⟩
theorem sameA.trans {a b c : Int × Int × Int} (h : sameA a b) (h2 : sameA b c) : sameA a c := ⟨h.1.trans h2.1, h.2.trans h2.2⟩
theorem arc_ext {a b : Int × Int × Int} (h : sameA a b) (hw : a.2.2 = b.2.2) : a = b := by
  obtain ⟨a0, a1, a2⟩ := a
  obtain ⟨b0, b1, b2⟩ := b
  obtain ⟨h1, h2⟩ := h
  simp only at h1 h2 hw
  rw [h1, h2, hw]

/-- a list that rises. -/
def RiseA (l : List (Int × Int × Int)) : Prop := l.Pairwise lessA
theorem rise_same {l : List (Int × Int × Int)} (h : RiseA l) {a b : Int × Int × Int} (ha : a ∈ l) (hb : b ∈ l) (hs : sameA a b) : a = b := by
  induction l with
  | nil => cases ha
  | cons x r ih =>
    obtain ⟨h1, h2⟩ := List.pairwise_cons.1 h
    rcases List.mem_cons.1 ha with rfl | ha' <;> rcases List.mem_cons.1 hb with rfl | hb'
    · rfl
    · exact absurd hs (less_not_same (h1 b hb')).1
    · exact absurd hs.symm (less_not_same (h1 a ha')).1
    · exact ih h2 ha' hb'
theorem rise_ext : ∀ {l r : List (Int × Int × Int)}, RiseA l → RiseA r → (∀ x, x ∈ l ↔ x ∈ r) → l = r
  | [], [], _, _, _ => rfl
  | [], y :: r, _, _, h => absurd ((h y).2 (by simp)) (by simp)
  | x :: l, [], _, _, h => absurd ((h x).1 (by simp)) (by simp)
  | x :: l, y :: r, hl, hr, h => by
    obtain ⟨a1, a2⟩ := List.pairwise_cons.1 hl
    obtain ⟨b1, b2⟩ := List.pairwise_cons.1 hr
    have e : x = y := by
      rcases List.mem_cons.1 ((h x).1 (by simp)) with e | hx
      · exact e
      · rcases List.mem_cons.1 ((h y).2 (by simp)) with e | hy
        · exact e.symm
        · exact absurd (a1 y hy) (less_not_same (b1 x hx)).2.2
    subst e
    refine congrArg _ (rise_ext a2 b2 fun z => ⟨fun hz => ?_, fun hz => ?_⟩)
    · rcases List.mem_cons.1 ((h z).1 (List.mem_cons_of_mem _ hz)) with e | hz'
      · subst e; exact absurd ⟨rfl, rfl⟩ (less_not_same (a1 z hz)).1
      · exact hz'
    · rcases List.mem_cons.1 ((h z).2 (List.mem_cons_of_mem _ hz)) with e | hz'
      · subst e; exact absurd ⟨rfl, rfl⟩ (less_not_same (b1 z hz)).1
      · exact hz'

/-- the normal list of some arcs. -/
structure NormOf (P : Int × Int × Int → Prop) (l : List (Int × Int × Int)) : Prop where
  rise : RiseA l
  of : ∀ x ∈ l, P x
  all : ∀ y, P y → ∃ b ∈ l, sameA b y ∧ b.2.2 ≤ y.2.2
theorem NormOf.sub {P : Int × Int × Int → Prop} {l r : List (Int × Int × Int)} (hl : NormOf P l) (hr : NormOf P r) {x : Int × Int × Int} (hx : x ∈ l) : x ∈ r := by
  obtain ⟨b, hb, h1, h2⟩ := hr.all x (hl.of x hx)
  obtain ⟨c, hc, h3, h4⟩ := hl.all b (hr.of b hb)
  have e := rise_same hl.rise hc hx (h3.trans h1)
  subst e
  have : b = c := arc_ext h1 (by omega)
  rw [← this]
  exact hb
theorem NormOf.unique {P : Int × Int × Int → Prop} {l r : List (Int × Int × Int)} (hl : NormOf P l) (hr : NormOf P r) : l = r :=
  rise_ext hl.rise hr.rise fun _ => ⟨hl.sub hr, hr.sub hl⟩
theorem NormOf.congr {P Q : Int × Int × Int → Prop} {l : List (Int × Int × Int)} (h : NormOf P l) (e : ∀ x, P x ↔ Q x) : NormOf Q l :=
  ⟨h.rise, fun x hx => (e x).1 (h.of x hx), fun y hy => h.all y ((e y).2 hy)⟩

/-- an arc put into a normal list. -/
def putA : List (Int × Int × Int) → Int × Int × Int → List (Int × Int × Int)
  | [], a => [a]
  | b :: r, a => if lessA b a then b :: putA r a else if sameA b a then (a.1, a.2.1, min a.2.2 b.2.2) :: r else a :: b :: r
theorem put_low : ∀ {l : List (Int × Int × Int)} {a x : Int × Int × Int}, (∀ y ∈ l, lessA x y) → lessA x a → ∀ y ∈ putA l a, lessA x y
  | [], a, x, _, ha, y, hy => by simp [putA] at hy; subst hy; exact ha
  | b :: r, a, x, h, ha, y, hy => by
    unfold putA at hy
    split at hy
    · rcases List.mem_cons.1 hy with rfl | hy
      · exact h y (by simp)
      · exact put_low (fun z hz => h z (List.mem_cons_of_mem _ hz)) ha y hy
    · split at hy
      · rcases List.mem_cons.1 hy with rfl | hy
        · unfold lessA at *; exact ha
        · exact h y (List.mem_cons_of_mem _ hy)
      · rcases List.mem_cons.1 hy with rfl | hy
        · exact ha
        · exact h y hy
theorem put_rise : ∀ {l : List (Int × Int × Int)} {a : Int × Int × Int}, RiseA l → RiseA (putA l a)
  | [], a, _ => List.pairwise_singleton _ _
  | b :: r, a, h => by
    obtain ⟨h1, h2⟩ := List.pairwise_cons.1 h
    unfold putA
    split
    · rename_i hb
      exact List.pairwise_cons.2 ⟨put_low h1 hb, put_rise h2⟩
    · split
      · rename_i hs
        refine List.pairwise_cons.2 ⟨fun y hy => ?_, h2⟩
        have := sameA_less hs.symm (h1 y hy)
        unfold lessA at *; exact this
      · rename_i hb hs
        have hab := less_total hb hs
        refine List.pairwise_cons.2 ⟨fun y hy => ?_, h⟩
        rcases List.mem_cons.1 hy with rfl | hy
        · exact hab
        · exact less_trans hab (h1 y hy)
theorem put_of : ∀ {l : List (Int × Int × Int)} {a x : Int × Int × Int}, x ∈ putA l a → x ∈ l ∨ x = a
  | [], a, x, h => by simp [putA] at h; exact Or.inr h
  | b :: r, a, x, h => by
    unfold putA at h
    split at h
    · rcases List.mem_cons.1 h with rfl | h
      · exact Or.inl (by simp)
      · rcases put_of h with h | h
        · exact Or.inl (List.mem_cons_of_mem _ h)
        · exact Or.inr h
    · split at h
      · rename_i hs
        rcases List.mem_cons.1 h with rfl | h
        · rcases Int.le_total a.2.2 b.2.2 with hw | hw
          · exact Or.inr (arc_ext ⟨rfl, rfl⟩ (by show min _ _ = _; omega))
          · refine Or.inl ?_
            rw [show (a.1, a.2.1, min a.2.2 b.2.2) = b from arc_ext ⟨hs.1.symm, hs.2.symm⟩ (by show min _ _ = _; omega)]
            simp
        · exact Or.inl (List.mem_cons_of_mem _ h)
      · rcases List.mem_cons.1 h with h | h
        · exact Or.inr h
        · exact Or.inl h
theorem put_new : ∀ (l : List (Int × Int × Int)) (a : Int × Int × Int), ∃ b ∈ putA l a, sameA b a ∧ b.2.2 ≤ a.2.2
  | [], a => ⟨a, by simp [putA], ⟨rfl, rfl⟩, Int.le_refl _⟩
  | b :: r, a => by
    unfold putA
    split
    · obtain ⟨c, h1, h2⟩ := put_new r a
      exact ⟨c, List.mem_cons_of_mem _ h1, h2⟩
    · split
      · exact ⟨_, List.mem_cons_self .., ⟨rfl, rfl⟩, by show min _ _ ≤ _; omega⟩
      · exact ⟨a, by simp, ⟨rfl, rfl⟩, Int.le_refl _⟩
theorem put_old : ∀ (l : List (Int × Int × Int)) (a x : Int × Int × Int), x ∈ l → ∃ b ∈ putA l a, sameA b x ∧ b.2.2 ≤ x.2.2
  | b :: r, a, x, hx => by
    unfold putA
    split
    · rcases List.mem_cons.1 hx with rfl | hx
      · exact ⟨x, by simp, ⟨rfl, rfl⟩, Int.le_refl _⟩
      · obtain ⟨c, h1, h2⟩ := put_old r a x hx
        exact ⟨c, List.mem_cons_of_mem _ h1, h2⟩
    · split
      · rename_i hs
        rcases List.mem_cons.1 hx with rfl | hx
        · exact ⟨_, List.mem_cons_self .., hs.symm, by show min _ _ ≤ _; omega⟩
        · exact ⟨x, List.mem_cons_of_mem _ hx, ⟨rfl, rfl⟩, Int.le_refl _⟩
      · exact ⟨x, List.mem_cons_of_mem _ hx, ⟨rfl, rfl⟩, Int.le_refl _⟩
theorem NormOf.put {P : Int × Int × Int → Prop} {l : List (Int × Int × Int)} (h : NormOf P l) (a : Int × Int × Int) : NormOf (fun x => P x ∨ x = a) (putA l a) := by
  refine ⟨put_rise h.rise, fun x hx => (put_of hx).imp (h.of x) id, fun y hy => ?_⟩
  rcases hy with hy | rfl
  · obtain ⟨b, hb, h1, h2⟩ := h.all y hy
    obtain ⟨c, hc, h3, h4⟩ := put_old l a b hb
    exact ⟨c, hc, h3.trans h1, by omega⟩
  · exact put_new l y
/-- the document's normal list. -/
def normA (xs : List (Int × Int × Int)) : List (Int × Int × Int) := (kept xs).foldl putA []
theorem norm_fold : ∀ (r : List (Int × Int × Int)) {P : Int × Int × Int → Prop} {l : List (Int × Int × Int)}, NormOf P l → NormOf (fun x => P x ∨ x ∈ r) (r.foldl putA l)
  | [], _, _, h => h.congr fun x => by simp
  | a :: r, _, _, h => (norm_fold r (h.put a)).congr fun x => by simp only [List.mem_cons]; exact or_assoc
theorem normA_norm (xs : List (Int × Int × Int)) : NormOf (· ∈ kept xs) (normA xs) :=
  (norm_fold (kept xs) (P := fun _ => False) (l := []) ⟨List.Pairwise.nil, fun x h => (by cases h), fun _ h => False.elim h⟩).congr fun x => by simp

/-- a sorted row, compacted, is normal. -/
theorem comp_norm {d : Array (Int × Int × Int)} {n : Nat} (hs : ∀ i j, i < j → j < n → ltOf arcI d[j]! d[i]! = false) : ∀ k, k ≤ n → NormOf (fun x => ∃ j, j < k ∧ x = d[j]!) (comp d k)
  | 0, _ => ⟨List.Pairwise.nil, fun x h => by simp [comp] at h, fun y ⟨j, h, _⟩ => by omega⟩
  | k + 1, hk => by
    have ih := comp_norm hs k (by omega)
    by_cases h : k = 0 ∨ endsI d[k]! d[k - 1]! ≠ 0
    · rw [comp_new h]
      have hl : ∀ j, j < k → lessA d[j]! d[k]! := fun j hj => by
        have h1 := h.resolve_left (by omega)
        rw [Ne, endsI_zero] at h1
        have a1 := hs (k - 1) k (by omega) (by omega)
        have a2 : j = k - 1 ∨ ltOf arcI d[k - 1]! d[j]! = false := by
          by_cases e : j = k - 1
          · exact Or.inl e
          · exact Or.inr (hs j (k - 1) (by omega) (by omega))
        rw [ltA, decide_eq_false_iff_not] at a1
        rcases a2 with rfl | a2
        · unfold lessA sameA at *; omega
        · rw [ltA, decide_eq_false_iff_not] at a2
          unfold lessA sameA at *
          omega
      refine ⟨List.pairwise_append.2 ⟨ih.rise, List.pairwise_singleton _ _, fun a ha c hc => ?_⟩, fun x hx => ?_, fun y ⟨j, hj, e⟩ => ?_⟩
      · obtain ⟨j, hj, rfl⟩ := ih.of a ha
        simp at hc
        rw [hc]
        exact hl j hj
      · rcases List.mem_append.1 hx with hx | hx
        · obtain ⟨j, hj, e⟩ := ih.of x hx
          exact ⟨j, by omega, e⟩
        · simp at hx
          exact ⟨k, by omega, hx⟩
      · by_cases hj' : j < k
        · obtain ⟨b, hb, hh⟩ := ih.all y ⟨j, hj', e⟩
          exact ⟨b, List.mem_append_left _ hb, hh⟩
        · obtain rfl : j = k := by omega
          exact ⟨d[j]!, by simp, by rw [e]; exact ⟨rfl, rfl⟩, by rw [e]; exact Int.le_refl _⟩
    · have hk0 : 0 < k := by omega
      have hz : endsI d[k]! d[k - 1]! = 0 := by
        by_cases hz : endsI d[k]! d[k - 1]! = 0
        · exact hz
        · exact absurd (Or.inr hz) h
      rw [comp_same hk0 hz]
      rw [endsI_zero] at hz
      refine ⟨ih.rise, fun x hx => ?_, fun y ⟨j, hj, e⟩ => ?_⟩
      · obtain ⟨j, hj, e⟩ := ih.of x hx
        exact ⟨j, by omega, e⟩
      · by_cases hj' : j < k
        · exact ih.all y ⟨j, hj', e⟩
        · obtain rfl : j = k := by omega
          obtain ⟨b, hb, h1, h2⟩ := ih.all d[j - 1]! ⟨j - 1, by omega, rfl⟩
          have a1 := hs (j - 1) j (by omega) (by omega)
          rw [ltA, decide_eq_false_iff_not] at a1
          rw [e]
          exact ⟨b, hb, h1.trans hz.symm, by unfold sameA at *; omega⟩
theorem sortedA_size (xs : List (Int × Int × Int)) : (sortedA xs).size = (kept xs).length := by
  have hp := (pdq_sorts (ltOf arcI) swoA (kept xs).toArray 0 (kept xs).toArray.size (Lib.bitLen (kept xs).toArray.size) true true (Nat.zero_le _) (Nat.le_refl _) (Or.inl rfl)).1
  have := hp.1
  simpa [sortedA] using this
/-- what is sorted and compacted is what putting makes. -/
theorem comp_sorted (xs : List (Int × Int × Int)) : comp (sortedA xs) (kept xs).length = normA xs := by
  have hps := pdq_sorts (ltOf arcI) swoA (kept xs).toArray 0 (kept xs).toArray.size (Lib.bitLen (kept xs).toArray.size) true true (Nat.zero_le _) (Nat.le_refl _) (Or.inl rfl)
  have hsz := sortedA_size xs
  have hm : ∀ x, (∃ j, j < (kept xs).length ∧ x = (sortedA xs)[j]!) ↔ x ∈ kept xs := fun x => by
    have hp := hps.1.2.2
    change ((sortedA xs).extract 0 _).toList.Perm _ at hp
    rw [show (kept xs).toArray.size = (sortedA xs).size by rw [hsz]; simp] at hp
    have hx : x ∈ (sortedA xs).toList ↔ x ∈ kept xs := by
      have := hp.mem_iff (a := x)
      rw [hsz] at this
      have e : List.take (kept xs).length (sortedA xs).toList = (sortedA xs).toList := List.take_of_length_le (by rw [Array.length_toList, hsz]; exact Nat.le_refl _)
      simp [e] at this
      simpa using this
    rw [← hx]
    constructor
    · rintro ⟨j, hj, rfl⟩
      rw [← hsz] at hj
      rw [getElem!_pos _ j hj]
      simp
    · intro h
      obtain ⟨j, hj, e⟩ := List.getElem_of_mem h
      simp at hj
      refine ⟨j, by omega, ?_⟩
      rw [getElem!_pos _ j hj]
      simpa using e.symm
  refine NormOf.unique ((comp_norm (n := (kept xs).length) (fun i j h1 h2 => ?_) _ (Nat.le_refl _)).congr hm) (normA_norm xs)
  exact hps.2 i j (Nat.zero_le _) h1 (by simpa using h2)
end Go.Proofs.YtbkclhaonbjobaaGreat

namespace Go.Proofs.YtbkclhaonbjobaaGreat
open Go.RowKit Go.Extern Go.Sort Go.Shelf

attribute [local go_sem] Oper.semAt_some

theorem keeps_two {W : World} {b : Nat} {c : Array Value} {t : TypeId} (h : W.heap[b]? = some (.cells c t)) (ht : t ≠ 143) (u v : Value) : Keeps W ((W.setCell ⟨b, 0, none⟩ u).setCell ⟨b, 1, none⟩ v) := fun d x hd => by
  have hne : d ≠ b := fun e => by rw [e, h] at hd; cases hd; exact ht rfl
  rw [heap_setCell_other _ _ _ _ hne, heap_setCell_other _ _ _ _ hne]
  exact hd
/-- an arc turned about. -/
def turn (a : Int × Int × Int) : Int × Int × Int := (a.2.1, a.1, a.2.2)
/-- what holds at each round. -/
structure RevI (w : World) (R : Nat) (N : Int) (ao : Option Addr) (cap : Nat) (xs : List (Int × Int × Int)) (k : Nat) (wr : World) : Prop where
  done : ∀ j a, j < k → xs[j]? = some a → wr.cell? ⟨R, j * 3, none⟩ = some (.int .i64 a.2.1) ∧ wr.cell? ⟨R, j * 3 + 1, none⟩ = some (.int .i64 a.1) ∧ wr.cell? ⟨R, j * 3 + 2, none⟩ = some (.int .i64 a.2.2)
  room : ∀ o, o < xs.length * 3 → ∃ v, wr.cell? ⟨R, o, none⟩ = some v
  free : ∀ o, wr.frozen? ⟨R, o, none⟩ = false
  lt : R < wr.heap.size
  box : wr.heap[w.heap.size]? = some (.cells #[.int .i64 N, .slice ao xs.length cap] 24)
  res : wr.heap[w.heap.size + 1]? = some (.cells #[.int .i64 0, .slice none 0 0] 24)
  below : Below w.heap.size w wr
end Go.Proofs.YtbkclhaonbjobaaGreat

namespace Go.Proofs.YtbkclhaonbjobaaGreat
open Go.RowKit Go.Extern Go.Sort Go.Shelf

attribute [local go_sem] Oper.semAt_some

theorem compacts_all (xs : List (Int × Int × Int)) (hm : xs.length ≤ 262144) : Compacts xs (normA xs) := fun b wx hH hb => by
  have hk := kept_le xs
  have h := compact_calls (sortedA xs) b 0 (kept xs).length xs.length wx (sortedA_size xs) hk (by omega) hH hb
  rw [comp_sorted] at h
  exact h
theorem normA_len (xs : List (Int × Int × Int)) : (normA xs).length ≤ xs.length := by
  rw [← comp_sorted]
  exact Nat.le_trans (comp_len _ _) (kept_le xs)

set_option maxRecDepth 100000 in
set_option maxHeartbeats 4000000 in
theorem of_all (N : Int) (ao : Option Addr) (cap : Nat) (xs : List (Int × Int × Int)) (w : World) (hl : HasArcs w (.slice ao xs.length cap) xs) (hm : xs.length ≤ maxLen) :
    Calls Tryz.prog 26 #[.agg #[.int .i64 N, .slice ao xs.length cap]] w fun e w' => ∃ M lo n lc v ys, e = .returned (.tuple #[.agg #[.int .i64 M, .slice lo n lc], v]) ∧ HasArcs w' (.slice lo n lc) ys ∧ ys.length ≤ xs.length ∧ IsTold w' (graphErr N xs) v ∧ ((graphErr N xs = (0, []) ∧ M = N ∧ ys = normA xs) ∨ (graphErr N xs ≠ (0, []) ∧ M = 0 ∧ ys = [])) ∧ Below w.heap.size w w' := by
  by_cases hgood : graphErr N xs = (0, [])
  · have hlen : xs.length ≤ 262144 := by
      have h := hgood
      unfold graphErr at h
      split at h
      · simp at h
      · omega
    refine (of_calls N ao cap xs (normA xs) w hl hgood hlen (compacts_all xs hlen)).mono ?_
    rintro e w' ⟨b, rfl, hA, hB⟩
    exact ⟨N, some ⟨b, 0, none⟩, (normA xs).length, xs.length, .nilIface, normA xs, rfl, hA, normA_len xs, Or.inl ⟨hgood, rfl⟩, Or.inl ⟨hgood, rfl, rfl⟩, hB⟩
  obtain ⟨W0, hW0⟩ : ∃ W0, (w.alloc (.cells #[.int .i64 N, .slice ao xs.length cap] 24)).alloc (.cells #[.int .i64 0, .slice none 0 0] 24) = W0 := ⟨_, rfl⟩
  have hB0 : Below w.heap.size w W0 := by rw [← hW0]; exact ((Below.refl _ w).alloc (Nat.le_refl _) _).alloc (by simp) _
  have k1 : W0.heap[w.heap.size + 1]? = some (.cells #[.int .i64 0, .slice none 0 0] 24) := by
    have h := heap_new (w.alloc (.cells #[.int .i64 N, .slice ao xs.length cap] 24)) (.cells #[.int .i64 0, .slice none 0 0] 24)
    rw [hW0] at h
    simpa using h
  have hs0 : W0.heap.size = w.heap.size + 2 := by rw [← hW0]; simp
  have HW0 : Hid ((w.alloc (.cells #[.int .i64 N, .slice ao xs.length cap] 24)).alloc (.cells #[.int .i64 0, .slice none 0 0] 24) = W0) := hW0
  have HB0 : Hid (Below w.heap.size w W0) := hB0
  have HCK : Hid (Calls Tryz.prog 42 #[.agg #[.int .i64 N, .slice ao xs.length cap]] W0 fun e w' => ∃ v, e = .returned v ∧ IsTold w' (graphErr N xs) v ∧ Below W0.heap.size W0 w') := check_calls N ao cap xs W0 (hl.keep hB0) hm
  have HK0 : Hid (W0.heap[w.heap.size + 1]? = some (.cells #[.int .i64 0, .slice none 0 0] 24)) := k1
  have HGN : Hid (graphErr N xs ≠ (0, [])) := hgood
  clear hl k1 hB0 hW0 hgood
  go_enter Tryz.func26, Tryz.ntmps26
  go_wp2_with fail
  rw [HW0.out]
  refine HCK.out.mono ?_
  rintro e w1 ⟨v, rfl, ht1, hb1⟩
  have HT1 : Hid (IsTold w1 (graphErr N xs) v) := ht1
  have HB1 : Hid (Below w.heap.size w w1) := HB0.out.trans (hb1.mono HB0.out.size)
  have HK1 : Hid (w1.heap[w.heap.size + 1]? = some (.cells #[.int .i64 0, .slice none 0 0] 24)) := (hb1.block _ (by omega)).trans HK0.out
  have hs1 : w.heap.size + 1 < w1.heap.size := lt_of_get HK1.out
  obtain ⟨b0, b1, y0, y1⟩ : w1.cell? ⟨w.heap.size + 1, 0, none⟩ = some (.int .i64 0) ∧ w1.cell? ⟨w.heap.size + 1, 1, none⟩ = some (.slice none 0 0) ∧ w1.frozen? ⟨w.heap.size + 1, 0, none⟩ = false ∧ w1.frozen? ⟨w.heap.size + 1, 1, none⟩ = false := by simp [World.cell?, World.frozen?, HK1.out]
  clear hb1
  obtain ⟨T, x, hsh⟩ : ∃ T x, v = .iface T x := by
    rcases ht1 with ⟨hg, _⟩ | ⟨hg, hv⟩
    · exact absurd hg HGN.out
    · cases hps : (graphErr N xs).2 with
      | nil => rw [hps] at hv; exact ⟨_, _, hv⟩
      | cons p r => rw [hps] at hv; obtain ⟨b, u, e, _⟩ := hv; exact ⟨_, _, e⟩
  subst hsh
  clear ht1
  go_wp2
  refine bodyPost_ret (v := .tuple #[.agg #[.int .i64 0, .slice none 0 0], .iface T x]) (by simp [results, Tryz.results26, go_sem, b0, b1]) rfl ⟨0, none, 0, 0, .iface T x, [], rfl, ⟨_, _, rfl, fun j a hj => by simp at hj⟩, Nat.zero_le _, ?_, Or.inr ⟨HGN.out, rfl, rfl⟩, ?_⟩
  · exact HT1.out.keep (keeps_two HK1.out (by decide) _ _)
  · exact (HB1.out.setCell (p := ⟨w.heap.size + 1, 0, none⟩) (by simp) _).setCell (p := ⟨w.heap.size + 1, 1, none⟩) (by simp) _
end Go.Proofs.YtbkclhaonbjobaaGreat

namespace Go.Proofs.YtbkclhaonbjobaaGreat
open Go.RowKit Go.Extern

theorem firstBad_none (N : Int) : ∀ (xs : List (Int × Int × Int)) (i : Nat), firstBad N xs i = none ↔ ∀ a ∈ xs, arcBad N a = 0
  | [], i => by simp [firstBad]
  | a :: r, i => by
    unfold firstBad
    by_cases h : arcBad N a = 0
    · rw [if_pos h, firstBad_none N r (i + 1)]
      simp [h]
    · rw [if_neg h]
      simp [h]
theorem good_iff (N : Int) (xs : List (Int × Int × Int)) : graphErr N xs = (0, []) ↔ (¬ (N < 0 ∨ 65536 < N ∨ 262144 < xs.length)) ∧ ∀ a ∈ xs, arcBad N a = 0 := by
  unfold graphErr
  by_cases h : N < 0 ∨ 65536 < N ∨ 262144 < xs.length
  · rw [if_pos h]; simp [h]
  · rw [if_neg h]
    cases hf : firstBad N xs 0 with
    | none => exact ⟨fun _ => ⟨h, (firstBad_none N xs 0).1 hf⟩, fun _ => rfl⟩
    | some q =>
      obtain ⟨i, c⟩ := q
      simp only [Prod.mk.injEq, List.cons_ne_nil, and_false, false_iff]
      rintro ⟨_, h2⟩
      rw [(firstBad_none N xs 0).2 h2] at hf
      cases hf
theorem kept_mem {xs : List (Int × Int × Int)} {a : Int × Int × Int} : a ∈ kept xs ↔ a ∈ xs ∧ a.1 ≠ a.2.1 := by
  unfold kept
  simp [List.mem_filter]
theorem norm_sub {xs : List (Int × Int × Int)} {a : Int × Int × Int} (h : a ∈ normA xs) : a ∈ xs ∧ a.1 ≠ a.2.1 := kept_mem.1 ((normA_norm xs).of a h)
theorem good_norm {N : Int} {xs : List (Int × Int × Int)} (h : graphErr N xs = (0, [])) : graphErr N (normA xs) = (0, []) := by
  rw [good_iff] at *
  have := normA_len xs
  exact ⟨by omega, fun a ha => h.2 a (norm_sub ha).1⟩
theorem told_ok {w : World} {v : Value} (h : IsTold w (0, []) v) : v = .nilIface := by
  rcases h with ⟨_, h2⟩ | ⟨h1, _⟩
  · exact h2
  · exact absurd rfl h1

section
variable {N : Int} {ao : Option Addr} {n cap : Nat} {xs : List (Int × Int × Int)} {w : World}
theorem arcs_len (h : HasArcs w (.slice ao n cap) xs) : n = xs.length := by
  obtain ⟨ao', cap', e, _⟩ := h
  injection e
theorem of_good (hl : HasArcs w (.slice ao n cap) xs) (hg : graphErr N xs = (0, [])) : Calls Tryz.prog 26 #[.agg #[.int .i64 N, .slice ao n cap]] w fun e w' => ∃ lo k lc, e = .returned (.tuple #[.agg #[.int .i64 N, .slice lo k lc], .nilIface]) ∧ HasArcs w' (.slice lo k lc) (normA xs) ∧ Below w.heap.size w w' := by
  have hn := arcs_len hl
  subst hn
  have hm := ((good_iff N xs).1 hg).1
  refine (of_all N ao cap xs w hl (by unfold maxLen; omega)).mono ?_
  rintro e w' ⟨M, lo, k, lc, v, ys, rfl, hA, _, hT, h | h, hB⟩
  · obtain ⟨_, rfl, rfl⟩ := h
    rw [hg] at hT
    rw [told_ok hT]
    exact ⟨lo, k, lc, rfl, hA, hB⟩
  · exact absurd hg h.1
end
end Go.Proofs.YtbkclhaonbjobaaGreat
