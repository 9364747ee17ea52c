/- A heap of four children a place, as lists: things by places, places by ids; a hole that moves up and down. -/
namespace Go.Proofs.Ytepkogijignmlaa.Hp

abbrev Th := Int × Int
/-- by keys, alike ones by ids. -/
def ltT (x y : Th) : Prop := x.1 < y.1 ∨ (x.1 = y.1 ∧ x.2 < y.2)
instance (x y : Th) : Decidable (ltT x y) := by unfold ltT; infer_instance
theorem ltT_not_trans {x y z : Th} (h : ¬ ltT x y) (g : ¬ ltT y z) : ¬ ltT x z := by unfold ltT at *; omega
theorem ltT_asymm {x y : Th} (h : ltT x y) : ¬ ltT y x := by unfold ltT at *; omega
theorem ltT_irrefl (x : Th) : ¬ ltT x x := by unfold ltT; omega

/-- a heap: what stands where; the keys by ids. -/
structure Heap (ps : List Th) (wh : List Int) (f : Int → Option Int) : Prop where
  idr : ∀ (i : Nat) (y : Th), ps[i]? = some y → 0 ≤ y.2 ∧ y.2 < wh.length ∧ wh[y.2.toNat]? = some ((i : Int) + 1)
  back : ∀ d : Nat, d < wh.length → (wh[d]? = some 0 ∧ f d = none) ∨ ∃ (i : Nat) (y : Th), wh[d]? = some ((i : Int) + 1) ∧ ps[i]? = some y ∧ y.2 = d ∧ f d = some y.1
  ord : ∀ (i : Nat) (y p : Th), 0 < i → ps[i]? = some y → ps[(i - 1) / 4]? = some p → ¬ ltT y p

/-- a heap but for one place, which is free for the thing x. -/
structure Hole (ps : List Th) (wh : List Int) (free : Nat) (xid : Int) (f : Int → Option Int) : Prop where
  flt : free < ps.length
  xin : 0 ≤ xid ∧ xid < wh.length
  idr : ∀ (i : Nat) (y : Th), i ≠ free → ps[i]? = some y → 0 ≤ y.2 ∧ y.2 < wh.length ∧ y.2 ≠ xid ∧ wh[y.2.toNat]? = some ((i : Int) + 1)
  back : ∀ d : Nat, d < wh.length → (d : Int) ≠ xid → (wh[d]? = some 0 ∧ f d = none) ∨ ∃ (i : Nat) (y : Th), i ≠ free ∧ wh[d]? = some ((i : Int) + 1) ∧ ps[i]? = some y ∧ y.2 = d ∧ f d = some y.1
  ord : ∀ (i : Nat) (y p : Th), 0 < i → i ≠ free → (i - 1) / 4 ≠ free → ps[i]? = some y → ps[(i - 1) / 4]? = some p → ¬ ltT y p
  gp : ∀ (i : Nat) (y p : Th), 0 < i → 0 < free → (i - 1) / 4 = free → ps[i]? = some y → ps[(free - 1) / 4]? = some p → ¬ ltT y p

theorem get_set {α : Type} (l : List α) (a : Nat) (x : α) (i : Nat) (y : α) (h : (l.set a x)[i]? = some y) : (i = a ∧ a < l.length ∧ y = x) ∨ (i ≠ a ∧ l[i]? = some y) := by
  rw [List.getElem?_set] at h
  by_cases e : a = i
  · subst e
    rw [if_pos rfl] at h
    split at h
    · exact Or.inl ⟨rfl, by assumption, (Option.some.inj h).symm⟩
    · cases h
  · rw [if_neg e] at h
    exact Or.inr ⟨fun h => e h.symm, h⟩
theorem set_same {α : Type} {l : List α} {a : Nat} (x : α) (h : a < l.length) : (l.set a x)[a]? = some x := by rw [List.getElem?_set]; simp [h]
theorem set_other {α : Type} {l : List α} {a i : Nat} (x : α) (h : i ≠ a) : (l.set a x)[i]? = l[i]? := by rw [List.getElem?_set, if_neg (fun e => h e.symm)]

/-- what stands at one place goes to the free one: the hole goes there. (What ids say is carried by itself.) -/
theorem Hole.moved_ids {ps : List Th} {wh : List Int} {free : Nat} {xid : Int} {f : Int → Option Int} (h : Hole ps wh free xid f) {c : Nat} {y : Th} (hc : c ≠ free) (hy : ps[c]? = some y) :
    (∀ (i : Nat) (z : Th), i ≠ c → (ps.set free y)[i]? = some z → 0 ≤ z.2 ∧ z.2 < (wh.set y.2.toNat ((free : Int) + 1)).length ∧ z.2 ≠ xid ∧ (wh.set y.2.toNat ((free : Int) + 1))[z.2.toNat]? = some ((i : Int) + 1)) ∧
    (∀ d : Nat, d < (wh.set y.2.toNat ((free : Int) + 1)).length → (d : Int) ≠ xid → ((wh.set y.2.toNat ((free : Int) + 1))[d]? = some 0 ∧ f d = none) ∨ ∃ (i : Nat) (z : Th), i ≠ c ∧ (wh.set y.2.toNat ((free : Int) + 1))[d]? = some ((i : Int) + 1) ∧ (ps.set free y)[i]? = some z ∧ z.2 = d ∧ f d = some z.1) := by
  obtain ⟨y0, y1, y2, y3⟩ := h.idr c y hc hy
  have hyl : y.2.toNat < wh.length := by omega
  constructor
  · intro i z hi hz
    rw [List.length_set]
    rcases get_set _ _ _ _ _ hz with ⟨rfl, _, rfl⟩ | ⟨hne, hz'⟩
    · exact ⟨y0, y1, y2, set_same _ hyl⟩
    · obtain ⟨z0, z1, z2, z3⟩ := h.idr i z hne hz'
      refine ⟨z0, z1, z2, ?_⟩
      by_cases e : z.2.toNat = y.2.toNat
      · rw [e, y3] at z3
        have := Option.some.inj z3
        omega
      · rw [set_other _ e]; exact z3
  · intro d hd hx
    rw [List.length_set] at hd
    rcases h.back d hd hx with ⟨h0, h1⟩ | ⟨i, z, hi, hw, hz, e, hf⟩
    · left
      refine ⟨?_, h1⟩
      by_cases e : d = y.2.toNat
      · rw [← e, h0] at y3
        have := Option.some.inj y3
        omega
      · rw [set_other _ e]; exact h0
    · right
      by_cases e2 : i = c
      · subst e2
        obtain rfl : y = z := Option.some.inj (hy.symm.trans hz)
        refine ⟨free, y, fun e => hc e.symm, ?_, set_same _ h.flt, e, hf⟩
        have : d = y.2.toNat := by omega
        rw [this]; exact set_same _ hyl
      · refine ⟨i, z, e2, ?_, ?_, e, hf⟩
        · by_cases e3 : d = y.2.toNat
          · rw [← e3, hw] at y3
            have := Option.some.inj y3
            omega
          · rw [set_other _ e3]; exact hw
        · rw [set_other _ hi]; exact hz

theorem Hole.rise {ps : List Th} {wh : List Int} {free : Nat} {xid : Int} {f : Int → Option Int} (h : Hole ps wh free xid f) {y : Th} (h0 : 0 < free) (hy : ps[(free - 1) / 4]? = some y) :
    Hole (ps.set free y) (wh.set y.2.toNat ((free : Int) + 1)) ((free - 1) / 4) xid f := by
  have hlt : (free - 1) / 4 < free := by omega
  have hm := h.moved_ids (c := (free - 1) / 4) (by omega) hy
  have hfl := h.flt
  refine ⟨by rw [List.length_set]; omega, by rw [List.length_set]; exact h.xin, hm.1, hm.2, ?_, ?_⟩
  · intro i z p hi hne hpa hz hp
    rcases get_set _ _ _ _ _ hz with ⟨rfl, _, rfl⟩ | ⟨hnf, hz'⟩
    · exact absurd rfl hpa
    · rcases get_set _ _ _ _ _ hp with ⟨e, _, rfl⟩ | ⟨hnp, hp'⟩
      · exact h.gp i z p hi h0 e hz' hy
      · exact h.ord i z p hi hnf hnp hz' hp'
  · intro i z p hi hpos hpa hz hp
    rcases get_set _ _ _ _ _ hp with ⟨e, _, rfl⟩ | ⟨hnp, hp'⟩
    · omega
    · have hyp := h.ord ((free - 1) / 4) y p (by omega) (by omega) (by omega) hy hp'
      rcases get_set _ _ _ _ _ hz with ⟨rfl, _, rfl⟩ | ⟨hnf, hz'⟩
      · exact hyp
      · exact ltT_not_trans (h.ord i z y hi hnf (by omega) hz' (by rw [hpa]; exact hy)) hyp

theorem Hole.sink {ps : List Th} {wh : List Int} {free : Nat} {xid : Int} {f : Int → Option Int} (h : Hole ps wh free xid f) {c : Nat} {y : Th} (h0 : 0 < c) (hc : (c - 1) / 4 = free) (hy : ps[c]? = some y)
    (hl : ∀ (i : Nat) (z : Th), 0 < i → (i - 1) / 4 = free → ps[i]? = some z → ¬ ltT z y) :
    Hole (ps.set free y) (wh.set y.2.toNat ((free : Int) + 1)) c xid f := by
  have hlt : free < c := by omega
  have hm := h.moved_ids (c := c) (by omega) hy
  have hcl := (List.getElem?_eq_some_iff.1 hy).1
  refine ⟨by rw [List.length_set]; exact hcl, by rw [List.length_set]; exact h.xin, hm.1, hm.2, ?_, ?_⟩
  · intro i z p hi hne hpa hz hp
    rcases get_set _ _ _ _ _ hz with ⟨rfl, _, rfl⟩ | ⟨hnf, hz'⟩
    · rcases get_set _ _ _ _ _ hp with ⟨e, _, rfl⟩ | ⟨hnp, hp'⟩
      · omega
      · exact h.gp c z p h0 hi hc hy hp'
    · rcases get_set _ _ _ _ _ hp with ⟨e, _, rfl⟩ | ⟨hnp, hp'⟩
      · exact hl i z hi e hz'
      · exact h.ord i z p hi hnf hnp hz' hp'
  · intro i z p hi hpos hpa hz hp
    rw [hc] at hp
    obtain rfl : y = p := by rw [set_same _ h.flt] at hp; exact Option.some.inj hp
    rcases get_set _ _ _ _ _ hz with ⟨rfl, _, rfl⟩ | ⟨hnf, hz'⟩
    · omega
    · exact h.ord i z y hi hnf (by omega) hz' (by rw [hpa]; exact hy)

/-- the thing comes to stand at the free place. -/
theorem Hole.fill {ps : List Th} {wh : List Int} {free : Nat} {x : Th} {f : Int → Option Int} (h : Hole ps wh free x.2 f)
    (hp : 0 < free → ∀ p, ps[(free - 1) / 4]? = some p → ¬ ltT x p) (hl : ∀ (i : Nat) (z : Th), 0 < i → (i - 1) / 4 = free → ps[i]? = some z → ¬ ltT z x) :
    Heap (ps.set free x) (wh.set x.2.toNat ((free : Int) + 1)) (fun d => if d = x.2 then some x.1 else f d) := by
  have hx := h.xin
  have hxl : x.2.toNat < wh.length := by omega
  refine ⟨?_, ?_, ?_⟩
  · intro i z hz
    rw [List.length_set]
    rcases get_set _ _ _ _ _ hz with ⟨rfl, _, rfl⟩ | ⟨hne, hz'⟩
    · exact ⟨hx.1, hx.2, set_same _ hxl⟩
    · obtain ⟨z0, z1, z2, z3⟩ := h.idr i z hne hz'
      exact ⟨z0, z1, by rw [set_other _ (by omega)]; exact z3⟩
  · intro d hd
    rw [List.length_set] at hd
    by_cases e : (d : Int) = x.2
    · right
      refine ⟨free, x, ?_, set_same _ h.flt, e.symm, by rw [if_pos e]⟩
      have : d = x.2.toNat := by omega
      rw [this]; exact set_same _ hxl
    · rw [if_neg e]
      rcases h.back d hd e with ⟨h0, h1⟩ | ⟨i, z, hi, hw, hz, e', hf⟩
      · left; exact ⟨by rw [set_other _ (by omega)]; exact h0, h1⟩
      · right; exact ⟨i, z, by rw [set_other _ (by omega)]; exact hw, by rw [set_other _ hi]; exact hz, e', hf⟩
  · intro i z p hi hz hp'
    rcases get_set _ _ _ _ _ hz with ⟨rfl, _, rfl⟩ | ⟨hnf, hz'⟩
    · rcases get_set _ _ _ _ _ hp' with ⟨e, _, rfl⟩ | ⟨hnp, hp''⟩
      · omega
      · exact hp hi p hp''
    · rcases get_set _ _ _ _ _ hp' with ⟨e, _, rfl⟩ | ⟨hnp, hp''⟩
      · exact hl i z hi e hz'
      · exact h.ord i z p hi hnf hnp hz' hp''

/-- a thing's own place, as a hole. -/
theorem Heap.hole {ps : List Th} {wh : List Int} {f : Int → Option Int} (h : Heap ps wh f) {i : Nat} {x : Th} (hx : ps[i]? = some x) : Hole ps wh i x.2 f := by
  obtain ⟨x0, x1, x2⟩ := h.idr i x hx
  refine ⟨(List.getElem?_eq_some_iff.1 hx).1, ⟨x0, x1⟩, ?_, ?_, fun k y p hk _ _ => h.ord k y p hk, ?_⟩
  · intro k y hk hy
    obtain ⟨y0, y1, y2⟩ := h.idr k y hy
    refine ⟨y0, y1, fun e => ?_, y2⟩
    rw [e, x2] at y2
    have := Option.some.inj y2
    omega
  · intro d hd hne
    rcases h.back d hd with h0 | ⟨k, y, hw, hy, e, hf⟩
    · exact Or.inl h0
    · refine Or.inr ⟨k, y, fun e' => ?_, hw, hy, e, hf⟩
      subst e'
      obtain rfl : x = y := Option.some.inj (hx.symm.trans hy)
      exact hne e.symm
  · intro k y p hk hpos hpa hy hp
    exact ltT_not_trans (h.ord k y x hk hy (by rw [hpa]; exact hx)) (h.ord i x p hpos hx hp)

/-- a new place at the end, free. -/
theorem Heap.room {ps : List Th} {wh : List Int} {f : Int → Option Int} (h : Heap ps wh f) {d : Nat} (hd : wh[d]? = some 0) (o : Th) : Hole (ps ++ [o]) wh ps.length d f := by
  have hdl := (List.getElem?_eq_some_iff.1 hd).1
  have hget : ∀ (i : Nat) (y : Th), i ≠ ps.length → (ps ++ [o])[i]? = some y → ps[i]? = some y := fun i y hi hy => by
    have hlt := (List.getElem?_eq_some_iff.1 hy).1
    rw [List.length_append] at hlt
    simp at hlt
    rwa [List.getElem?_append_left (by omega)] at hy
  have hput : ∀ (i : Nat) (y : Th), ps[i]? = some y → (ps ++ [o])[i]? = some y := fun i y hy => by
    rw [List.getElem?_append_left (List.getElem?_eq_some_iff.1 hy).1]; exact hy
  refine ⟨by simp, ⟨by omega, by omega⟩, ?_, ?_, ?_, ?_⟩
  · intro i y hi hy
    have hy' := hget i y hi hy
    obtain ⟨y0, y1, y2⟩ := h.idr i y hy'
    refine ⟨y0, y1, fun e => ?_, y2⟩
    have : y.2.toNat = d := by omega
    rw [this, hd] at y2
    have := Option.some.inj y2
    omega
  · intro k hk hne
    rcases h.back k hk with h0 | ⟨i, y, hw, hy, e, hf⟩
    · exact Or.inl h0
    · exact Or.inr ⟨i, y, by have := (List.getElem?_eq_some_iff.1 hy).1; omega, hw, hput i y hy, e, hf⟩
  · intro i y p hi hne hpa hy hp
    exact h.ord i y p hi (hget i y hne hy) (hget _ p hpa hp)
  · intro i y p hi hpos hpa hy hp
    have hlt := (List.getElem?_eq_some_iff.1 hy).1
    rw [List.length_append] at hlt
    simp at hlt
    omega

/-- what is there: at which place, and with which key. -/
theorem Heap.there {ps : List Th} {wh : List Int} {f : Int → Option Int} (h : Heap ps wh f) {d : Nat} {k : Nat} (hd : wh[d]? = some ((k : Int) + 1)) : ∃ y, ps[k]? = some y ∧ y.2 = d ∧ f d = some y.1 := by
  have hdl := (List.getElem?_eq_some_iff.1 hd).1
  rcases h.back d hdl with ⟨h0, _⟩ | ⟨i, y, hw, hy, e, hf⟩
  · rw [hd] at h0
    have := Option.some.inj h0
    omega
  · rw [hd] at hw
    have := Option.some.inj hw
    obtain rfl : k = i := by omega
    exact ⟨y, hy, e, hf⟩
theorem Heap.notThere {ps : List Th} {wh : List Int} {f : Int → Option Int} (h : Heap ps wh f) {d : Nat} (hd : wh[d]? = some 0) : f d = none := by
  have hdl := (List.getElem?_eq_some_iff.1 hd).1
  rcases h.back d hdl with ⟨_, h0⟩ | ⟨i, y, hw, hy, e, hf⟩
  · exact h0
  · rw [hd] at hw
    have := Option.some.inj hw
    omega
theorem Heap.entry {ps : List Th} {wh : List Int} {f : Int → Option Int} (h : Heap ps wh f) {d : Nat} (hd : d < wh.length) : wh[d]? = some 0 ∨ ∃ k : Nat, k < ps.length ∧ wh[d]? = some ((k : Int) + 1) := by
  rcases h.back d hd with ⟨h0, _⟩ | ⟨i, y, hw, hy, e, hf⟩
  · exact Or.inl h0
  · exact Or.inr ⟨i, (List.getElem?_eq_some_iff.1 hy).1, hw⟩

/-- the thing at place k is taken out; the last one goes to that place, if it is another. -/
theorem Heap.out {ps : List Th} {wh : List Int} {f : Int → Option Int} (h : Heap ps wh f) {m : Nat} (hl : ps.length = m + 1) {k : Nat} {x last : Th} (hx : ps[k]? = some x) (hlast : ps[m]? = some last) :
    (k = m → Heap (ps.take m) (wh.set x.2.toNat 0) (fun d => if d = x.2 then none else f d)) ∧
    (k ≠ m → Hole (ps.take m) (wh.set x.2.toNat 0) k last.2 (fun d => if d = x.2 then none else f d)) := by
  have hkl := (List.getElem?_eq_some_iff.1 hx).1
  obtain ⟨x0, x1, x2⟩ := h.idr k x hx
  obtain ⟨l0, l1, l2⟩ := h.idr m last hlast
  have hxl : x.2.toNat < wh.length := by omega
  have hget : ∀ (i : Nat) (y : Th), (ps.take m)[i]? = some y → i < m ∧ ps[i]? = some y := fun i y hy => by
    rw [List.getElem?_take] at hy
    split at hy
    · exact ⟨by assumption, hy⟩
    · cases hy
  have hput : ∀ (i : Nat) (y : Th), i < m → ps[i]? = some y → (ps.take m)[i]? = some y := fun i y hi hy => by rw [List.getElem?_take, if_pos hi]; exact hy
  have hidr : ∀ (i : Nat) (y : Th), i ≠ k → ps[i]? = some y → y.2 ≠ x.2 ∧ (wh.set x.2.toNat 0)[y.2.toNat]? = some ((i : Int) + 1) := fun i y hi hy => by
    obtain ⟨y0, y1, y2⟩ := h.idr i y hy
    have hne : y.2 ≠ x.2 := fun e => by
      rw [e, x2] at y2
      have := Option.some.inj y2
      omega
    exact ⟨hne, by rw [set_other _ (by omega)]; exact y2⟩
  constructor
  · intro hke
    subst hke
    refine ⟨?_, ?_, ?_⟩
    · intro i y hy
      obtain ⟨hi, hy'⟩ := hget i y hy
      obtain ⟨y0, y1, y2⟩ := h.idr i y hy'
      rw [List.length_set]
      exact ⟨y0, y1, (hidr i y (by omega) hy').2⟩
    · intro d hd
      rw [List.length_set] at hd
      by_cases e : (d : Int) = x.2
      · left
        have : d = x.2.toNat := by omega
        exact ⟨by rw [this]; exact set_same _ hxl, by rw [if_pos e]⟩
      · rw [if_neg e]
        rcases h.back d hd with ⟨h0, h1⟩ | ⟨i, y, hw, hy, e', hf⟩
        · exact Or.inl ⟨by rw [set_other _ (by omega)]; exact h0, h1⟩
        · have hil := (List.getElem?_eq_some_iff.1 hy).1
          have hik : i ≠ k := fun e2 => by
            subst e2
            obtain rfl : x = y := Option.some.inj (hx.symm.trans hy)
            exact e e'.symm
          exact Or.inr ⟨i, y, by rw [set_other _ (by omega)]; exact hw, hput i y (by omega) hy, e', hf⟩
    · intro i y p hi hy hp
      exact h.ord i y p hi (hget i y hy).2 (hget _ p hp).2
  · intro hke
    refine ⟨by rw [List.length_take]; omega, by rw [List.length_set]; exact ⟨l0, l1⟩, ?_, ?_, ?_, ?_⟩
    · intro i y hi hy
      obtain ⟨hie, hy'⟩ := hget i y hy
      obtain ⟨y0, y1, y2⟩ := h.idr i y hy'
      rw [List.length_set]
      refine ⟨y0, y1, fun e2 => ?_, (hidr i y hi hy').2⟩
      rw [e2, l2] at y2
      have := Option.some.inj y2
      omega
    · intro d hd hne
      rw [List.length_set] at hd
      by_cases e : (d : Int) = x.2
      · left
        have : d = x.2.toNat := by omega
        exact ⟨by rw [this]; exact set_same _ hxl, by rw [if_pos e]⟩
      · rw [if_neg e]
        rcases h.back d hd with ⟨h0, h1⟩ | ⟨i, y, hw, hy, e', hf⟩
        · exact Or.inl ⟨by rw [set_other _ (by omega)]; exact h0, h1⟩
        · have hil := (List.getElem?_eq_some_iff.1 hy).1
          have hik : i ≠ k := fun e2 => by
            subst e2
            obtain rfl : x = y := Option.some.inj (hx.symm.trans hy)
            exact e e'.symm
          have hil2 : i ≠ m := fun e2 => by
            subst e2
            obtain rfl : last = y := Option.some.inj (hlast.symm.trans hy)
            exact hne e'.symm
          exact Or.inr ⟨i, y, hik, by rw [set_other _ (by omega)]; exact hw, hput i y (by omega) hy, e', hf⟩
    · intro i y p hi _ _ hy hp
      exact h.ord i y p hi (hget i y hy).2 (hget _ p hp).2
    · intro i y p hi hpos hpa hy hp
      exact ltT_not_trans (h.ord i y x hi (hget i y hy).2 (by rw [hpa]; exact hx)) (h.ord k x p hpos hx (hget _ p hp).2)

/-- nothing is less than what stands first. -/
theorem Heap.least {ps : List Th} {wh : List Int} {f : Int → Option Int} (h : Heap ps wh f) {t : Th} (ht : ps[0]? = some t) : ∀ (i : Nat) (y : Th), ps[i]? = some y → ¬ ltT y t := by
  intro i
  induction i using Nat.strongRecOn with
  | _ i ih =>
    intro y hy
    by_cases h0 : i = 0
    · subst h0
      obtain rfl : t = y := Option.some.inj (ht.symm.trans hy)
      exact ltT_irrefl _
    · have hlt := (List.getElem?_eq_some_iff.1 hy).1
      have hp : ps[(i - 1) / 4]? = some ps[(i - 1) / 4] := List.getElem?_eq_getElem (by omega)
      exact ltT_not_trans (h.ord i y _ (by omega) hy hp) (ih _ (by omega) _ hp)
theorem Heap.top {ps : List Th} {wh : List Int} {f : Int → Option Int} (h : Heap ps wh f) {t : Th} (ht : ps[0]? = some t) : f t.2 = some t.1 ∧ (0 ≤ t.2 ∧ t.2 < wh.length) ∧ ∀ (d : Nat) k, d < wh.length → f d = some k → ¬ ltT (k, (d : Int)) t := by
  obtain ⟨t0, t1, t2⟩ := h.idr 0 t ht
  refine ⟨?_, ⟨t0, t1⟩, fun d k hd hk => ?_⟩
  · obtain ⟨y, hy, e, hf⟩ := h.there (d := t.2.toNat) (k := 0) (by simpa using t2)
    obtain rfl : t = y := Option.some.inj (ht.symm.trans hy)
    have : ((t.2.toNat : Nat) : Int) = t.2 := by omega
    rw [this] at hf
    exact hf
  · rcases h.back d hd with ⟨_, h1⟩ | ⟨i, y, hw, hy, e, hf⟩
    · rw [h1] at hk; cases hk
    · rw [hf] at hk
      cases hk
      have := h.least ht i y hy
      rw [← e]
      exact this
theorem Heap.empty {ps : List Th} {wh : List Int} {f : Int → Option Int} (h : Heap ps wh f) (hp : ps = []) : ∀ d : Nat, d < wh.length → f d = none := by
  intro d hd
  subst hp
  rcases h.back d hd with ⟨_, h1⟩ | ⟨i, y, hw, hy, e, hf⟩
  · exact h1
  · simp at hy
theorem Heap.new (n : Nat) : Heap [] (List.replicate n 0) (fun _ => none) :=
  ⟨fun i y h => by simp at h, fun d hd => Or.inl ⟨by rw [List.getElem?_replicate, if_pos (by simpa using hd)], rfl⟩, fun i y p _ h => by simp at h⟩
end Go.Proofs.Ytepkogijignmlaa.Hp
