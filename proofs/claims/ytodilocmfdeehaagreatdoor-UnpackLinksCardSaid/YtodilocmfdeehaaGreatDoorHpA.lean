/- A heap of four children a place, as lists: things by places, places by ids; a hole that moves up and down. A heap in memory: its struct, its row of things, its places by ids; what a store makes of it; what a call leaves alone. less, place, Len, Key, Top, New: what they answer. move: the thing at one place is taken over to the free one. rise: the free place goes up till the thing may stand there. leastChild: the place of the least thing right below a place; the place itself, if there is none. sink: the free place goes down till the thing may stand there. settle: the thing comes to stand where it belongs. New, Key, Top, Set, Push, Remove, Pop at a heap in memory, told by keys by ids. Set and Push: the thing is in with this key, with the lesser key. Remove and Pop: the thing is taken out. A stamp in memory: its struct and its row of places; what a store makes of it; what a call leaves alone. isPlace, holds, Len, Get, New: what they answer. New, Set: what they answer, and what the stamp holds. -/
import Derived.Test.YtodilocmfdeehaaGreatDoorProg
import Derived.WalkKit
import Derived.WalkSpells
import Derived.WalkLawsBesides
import Derived.OwnWalk
import Derived.Deep.RegionHeld3
import Derived.Deep.RegionWith
import Derived.Deep.QuietTactic
import Derived.BigQuiet
import Derived.Deep.RegionLaw
import Derived.Laws.CopyOwn
import Derived.Laws.IdiomCopy
import Derived.Deep.DeepCutAuto
import Derived.Deep.OwnRows
import Derived.Laws.OwnMore
import Derived.Deep.AppendLies
import Derived.Deep.Upon
import Derived.Laws.MakeOwn
namespace Go.Proofs.YtodilocmfdeehaaGreatDoor.Hp

abbrev Th := Int × Int
/-- by keys, alike ones by ids. -/
def ltT (x y : Th) : Prop := x.1 < y.1 ∨ (x.1 = y.1 ∧ x.2 < y.2)
instance (x y : Th) : Decidable (ltT x y) := by unfold ltT; infer_instance
theorem ltT_not_trans {x y z : Th} (h : ¬ ltT x y) (g : ¬ ltT y z) : ¬ ltT x z := by unfold ltT at *; omega
theorem ltT_asymm {x y : Th} (h : ltT x y) : ¬ ltT y x := by unfold ltT at *; omega
theorem ltT_irrefl (x : Th) : ¬ ltT x x := by unfold ltT; omega

/-- a heap: what stands where; the keys by ids. -/
structure Heap (ps : List Th) (wh : List Int) (f : Int → Option Int) : Prop where
  idr : ∀ (i : Nat) (y : Th), ps[i]? = some y → 0 ≤ y.2 ∧ y.2 < wh.length ∧ wh[y.2.toNat]? = some ((i : Int) + 1)
  back : ∀ d : Nat, d < wh.length → (wh[d]? = some 0 ∧ f d = none) ∨ ∃ (i : Nat) (y : Th), wh[d]? = some ((i : Int) + 1) ∧ ps[i]? = some y ∧ y.2 = d ∧ f d = some y.1
  ord : ∀ (i : Nat) (y p : Th), 0 < i → ps[i]? = some y → ps[(i - 1) / 4]? = some p → ¬ ltT y p

/-- a heap but for one place, which is free for the thing x. -/
structure Hole (ps : List Th) (wh : List Int) (free : Nat) (xid : Int) (f : Int → Option Int) : Prop where
  flt : free < ps.length
  xin : 0 ≤ xid ∧ xid < wh.length
  idr : ∀ (i : Nat) (y : Th), i ≠ free → ps[i]? = some y → 0 ≤ y.2 ∧ y.2 < wh.length ∧ y.2 ≠ xid ∧ wh[y.2.toNat]? = some ((i : Int) + 1)
  back : ∀ d : Nat, d < wh.length → (d : Int) ≠ xid → (wh[d]? = some 0 ∧ f d = none) ∨ ∃ (i : Nat) (y : Th), i ≠ free ∧ wh[d]? = some ((i : Int) + 1) ∧ ps[i]? = some y ∧ y.2 = d ∧ f d = some y.1
  ord : ∀ (i : Nat) (y p : Th), 0 < i → i ≠ free → (i - 1) / 4 ≠ free → ps[i]? = some y → ps[(i - 1) / 4]? = some p → ¬ ltT y p
  gp : ∀ (i : Nat) (y p : Th), 0 < i → 0 < free → (i - 1) / 4 = free → ps[i]? = some y → ps[(free - 1) / 4]? = some p → ¬ ltT y p

theorem get_set {α : Type} (l : List α) (a : Nat) (x : α) (i : Nat) (y : α) (h : (l.set a x)[i]? = some y) : (i = a ∧ a < l.length ∧ y = x) ∨ (i ≠ a ∧ l[i]? = some y) := by
  rw [List.getElem?_set] at h
  by_cases e : a = i
  · subst e
    rw [if_pos rfl] at h
    split at h
    · exact Or.inl ⟨rfl, by assumption, (Option.some.inj h).symm⟩
    · cases h
  · rw [if_neg e] at h
    exact Or.inr ⟨fun h => e h.symm, h⟩
theorem set_same {α : Type} {l : List α} {a : Nat} (x : α) (h : a < l.length) : (l.set a x)[a]? = some x := by rw [List.getElem?_set]; simp [h]
theorem set_other {α : Type} {l : List α} {a i : Nat} (x : α) (h : i ≠ a) : (l.set a x)[i]? = l[i]? := by rw [List.getElem?_set, if_neg (fun e => h e.symm)]

/-- what stands at one place goes to the free one: the hole goes there. (What ids say is carried by itself.) -/
theorem Hole.moved_ids {ps : List Th} {wh : List Int} {free : Nat} {xid : Int} {f : Int → Option Int} (h : Hole ps wh free xid f) {c : Nat} {y : Th} (hc : c ≠ free) (hy : ps[c]? = some y) :
    (∀ (i : Nat) (z : Th), i ≠ c → (ps.set free y)[i]? = some z → 0 ≤ z.2 ∧ z.2 < (wh.set y.2.toNat ((free : Int) + 1)).length ∧ z.2 ≠ xid ∧ (wh.set y.2.toNat ((free : Int) + 1))[z.2.toNat]? = some ((i : Int) + 1)) ∧
    (∀ d : Nat, d < (wh.set y.2.toNat ((free : Int) + 1)).length → (d : Int) ≠ xid → ((wh.set y.2.toNat ((free : Int) + 1))[d]? = some 0 ∧ f d = none) ∨ ∃ (i : Nat) (z : Th), i ≠ c ∧ (wh.set y.2.toNat ((free : Int) + 1))[d]? = some ((i : Int) + 1) ∧ (ps.set free y)[i]? = some z ∧ z.2 = d ∧ f d = some z.1) := by
  obtain ⟨y0, y1, y2, y3⟩ := h.idr c y hc hy
  have hyl : y.2.toNat < wh.length := by omega
  constructor
  · intro i z hi hz
    rw [List.length_set]
    rcases get_set _ _ _ _ _ hz with ⟨rfl, _, rfl⟩ | ⟨hne, hz'⟩
    · exact ⟨y0, y1, y2, set_same _ hyl⟩
    · obtain ⟨z0, z1, z2, z3⟩ := h.idr i z hne hz'
      refine ⟨z0, z1, z2, ?_⟩
      by_cases e : z.2.toNat = y.2.toNat
      · rw [e, y3] at z3
        have := Option.some.inj z3
        omega
      · rw [set_other _ e]; exact z3
  · intro d hd hx
    rw [List.length_set] at hd
    rcases h.back d hd hx with ⟨h0, h1⟩ | ⟨i, z, hi, hw, hz, e, hf⟩
    · left
      refine ⟨?_, h1⟩
      by_cases e : d = y.2.toNat
      · rw [← e, h0] at y3
        have := Option.some.inj y3
        omega
      · rw [set_other _ e]; exact h0
    · right
      by_cases e2 : i = c
      · subst e2
        obtain rfl : y = z := Option.some.inj (hy.symm.trans hz)
        refine ⟨free, y, fun e => hc e.symm, ?_, set_same _ h.flt, e, hf⟩
        have : d = y.2.toNat := by omega
        rw [this]; exact set_same _ hyl
      · refine ⟨i, z, e2, ?_, ?_, e, hf⟩
        · by_cases e3 : d = y.2.toNat
          · rw [← e3, hw] at y3
            have := Option.some.inj y3
            omega
          · rw [set_other _ e3]; exact hw
        · rw [set_other _ hi]; exact hz

theorem Hole.rise {ps : List Th} {wh : List Int} {free : Nat} {xid : Int} {f : Int → Option Int} (h : Hole ps wh free xid f) {y : Th} (h0 : 0 < free) (hy : ps[(free - 1) / 4]? = some y) :
    Hole (ps.set free y) (wh.set y.2.toNat ((free : Int) + 1)) ((free - 1) / 4) xid f := by
  have hlt : (free - 1) / 4 < free := by omega
  have hm := h.moved_ids (c := (free - 1) / 4) (by omega) hy
  have hfl := h.flt
  refine ⟨by rw [List.length_set]; omega, by rw [List.length_set]; exact h.xin, hm.1, hm.2, ?_, ?_⟩
  · intro i z p hi hne hpa hz hp
    rcases get_set _ _ _ _ _ hz with ⟨rfl, _, rfl⟩ | ⟨hnf, hz'⟩
    · exact absurd rfl hpa
    · rcases get_set _ _ _ _ _ hp with ⟨e, _, rfl⟩ | ⟨hnp, hp'⟩
      · exact h.gp i z p hi h0 e hz' hy
      · exact h.ord i z p hi hnf hnp hz' hp'
  · intro i z p hi hpos hpa hz hp
    rcases get_set _ _ _ _ _ hp with ⟨e, _, rfl⟩ | ⟨hnp, hp'⟩
    · omega
    · have hyp := h.ord ((free - 1) / 4) y p (by omega) (by omega) (by omega) hy hp'
      rcases get_set _ _ _ _ _ hz with ⟨rfl, _, rfl⟩ | ⟨hnf, hz'⟩
      · exact hyp
      · exact ltT_not_trans (h.ord i z y hi hnf (by omega) hz' (by rw [hpa]; exact hy)) hyp

theorem Hole.sink {ps : List Th} {wh : List Int} {free : Nat} {xid : Int} {f : Int → Option Int} (h : Hole ps wh free xid f) {c : Nat} {y : Th} (h0 : 0 < c) (hc : (c - 1) / 4 = free) (hy : ps[c]? = some y)
    (hl : ∀ (i : Nat) (z : Th), 0 < i → (i - 1) / 4 = free → ps[i]? = some z → ¬ ltT z y) :
    Hole (ps.set free y) (wh.set y.2.toNat ((free : Int) + 1)) c xid f := by
  have hlt : free < c := by omega
  have hm := h.moved_ids (c := c) (by omega) hy
  have hcl := (List.getElem?_eq_some_iff.1 hy).1
  refine ⟨by rw [List.length_set]; exact hcl, by rw [List.length_set]; exact h.xin, hm.1, hm.2, ?_, ?_⟩
  · intro i z p hi hne hpa hz hp
    rcases get_set _ _ _ _ _ hz with ⟨rfl, _, rfl⟩ | ⟨hnf, hz'⟩
    · rcases get_set _ _ _ _ _ hp with ⟨e, _, rfl⟩ | ⟨hnp, hp'⟩
      · omega
      · exact h.gp c z p h0 hi hc hy hp'
    · rcases get_set _ _ _ _ _ hp with ⟨e, _, rfl⟩ | ⟨hnp, hp'⟩
      · exact hl i z hi e hz'
      · exact h.ord i z p hi hnf hnp hz' hp'
  · intro i z p hi hpos hpa hz hp
    rw [hc] at hp
    obtain rfl : y = p := by rw [set_same _ h.flt] at hp; exact Option.some.inj hp
    rcases get_set _ _ _ _ _ hz with ⟨rfl, _, rfl⟩ | ⟨hnf, hz'⟩
    · omega
    · exact h.ord i z y hi hnf (by omega) hz' (by rw [hpa]; exact hy)

/-- the thing comes to stand at the free place. -/
theorem Hole.fill {ps : List Th} {wh : List Int} {free : Nat} {x : Th} {f : Int → Option Int} (h : Hole ps wh free x.2 f)
    (hp : 0 < free → ∀ p, ps[(free - 1) / 4]? = some p → ¬ ltT x p) (hl : ∀ (i : Nat) (z : Th), 0 < i → (i - 1) / 4 = free → ps[i]? = some z → ¬ ltT z x) :
    Heap (ps.set free x) (wh.set x.2.toNat ((free : Int) + 1)) (fun d => if d = x.2 then some x.1 else f d) := by
  have hx := h.xin
  have hxl : x.2.toNat < wh.length := by omega
  refine ⟨?_, ?_, ?_⟩
  · intro i z hz
    rw [List.length_set]
    rcases get_set _ _ _ _ _ hz with ⟨rfl, _, rfl⟩ | ⟨hne, hz'⟩
    · exact ⟨hx.1, hx.2, set_same _ hxl⟩
    · obtain ⟨z0, z1, z2, z3⟩ := h.idr i z hne hz'
      exact ⟨z0, z1, by rw [set_other _ (by omega)]; exact z3⟩
  · intro d hd
    rw [List.length_set] at hd
    by_cases e : (d : Int) = x.2
    · right
      refine ⟨free, x, ?_, set_same _ h.flt, e.symm, by rw [if_pos e]⟩
      have : d = x.2.toNat := by omega
      rw [this]; exact set_same _ hxl
    · rw [if_neg e]
      rcases h.back d hd e with ⟨h0, h1⟩ | ⟨i, z, hi, hw, hz, e', hf⟩
      · left; exact ⟨by rw [set_other _ (by omega)]; exact h0, h1⟩
      · right; exact ⟨i, z, by rw [set_other _ (by omega)]; exact hw, by rw [set_other _ hi]; exact hz, e', hf⟩
  · intro i z p hi hz hp'
    rcases get_set _ _ _ _ _ hz with ⟨rfl, _, rfl⟩ | ⟨hnf, hz'⟩
    · rcases get_set _ _ _ _ _ hp' with ⟨e, _, rfl⟩ | ⟨hnp, hp''⟩
      · omega
      · exact hp hi p hp''
    · rcases get_set _ _ _ _ _ hp' with ⟨e, _, rfl⟩ | ⟨hnp, hp''⟩
      · exact hl i z hi e hz'
      · exact h.ord i z p hi hnf hnp hz' hp''

/-- a thing's own place, as a hole. -/
theorem Heap.hole {ps : List Th} {wh : List Int} {f : Int → Option Int} (h : Heap ps wh f) {i : Nat} {x : Th} (hx : ps[i]? = some x) : Hole ps wh i x.2 f := by
  obtain ⟨x0, x1, x2⟩ := h.idr i x hx
  refine ⟨(List.getElem?_eq_some_iff.1 hx).1, ⟨x0, x1⟩, ?_, ?_, fun k y p hk _ _ => h.ord k y p hk, ?_⟩
  · intro k y hk hy
    obtain ⟨y0, y1, y2⟩ := h.idr k y hy
    refine ⟨y0, y1, fun e => ?_, y2⟩
    rw [e, x2] at y2
    have := Option.some.inj y2
    omega
  · intro d hd hne
    rcases h.back d hd with h0 | ⟨k, y, hw, hy, e, hf⟩
    · exact Or.inl h0
    · refine Or.inr ⟨k, y, fun e' => ?_, hw, hy, e, hf⟩
      subst e'
      obtain rfl : x = y := Option.some.inj (hx.symm.trans hy)
      exact hne e.symm
  · intro k y p hk hpos hpa hy hp
    exact ltT_not_trans (h.ord k y x hk hy (by rw [hpa]; exact hx)) (h.ord i x p hpos hx hp)

/-- a new place at the end, free. -/
theorem Heap.room {ps : List Th} {wh : List Int} {f : Int → Option Int} (h : Heap ps wh f) {d : Nat} (hd : wh[d]? = some 0) (o : Th) : Hole (ps ++ [o]) wh ps.length d f := by
  have hdl := (List.getElem?_eq_some_iff.1 hd).1
  have hget : ∀ (i : Nat) (y : Th), i ≠ ps.length → (ps ++ [o])[i]? = some y → ps[i]? = some y := fun i y hi hy => by
    have hlt := (List.getElem?_eq_some_iff.1 hy).1
    rw [List.length_append] at hlt
    simp at hlt
    rwa [List.getElem?_append_left (by omega)] at hy
  have hput : ∀ (i : Nat) (y : Th), ps[i]? = some y → (ps ++ [o])[i]? = some y := fun i y hy => by
    rw [List.getElem?_append_left (List.getElem?_eq_some_iff.1 hy).1]; exact hy
  refine ⟨by simp, ⟨by omega, by omega⟩, ?_, ?_, ?_, ?_⟩
  · intro i y hi hy
    have hy' := hget i y hi hy
    obtain ⟨y0, y1, y2⟩ := h.idr i y hy'
    refine ⟨y0, y1, fun e => ?_, y2⟩
    have : y.2.toNat = d := by omega
    rw [this, hd] at y2
    have := Option.some.inj y2
    omega
  · intro k hk hne
    rcases h.back k hk with h0 | ⟨i, y, hw, hy, e, hf⟩
    · exact Or.inl h0
    · exact Or.inr ⟨i, y, by have := (List.getElem?_eq_some_iff.1 hy).1; omega, hw, hput i y hy, e, hf⟩
  · intro i y p hi hne hpa hy hp
    exact h.ord i y p hi (hget i y hne hy) (hget _ p hpa hp)
  · intro i y p hi hpos hpa hy hp
    have hlt := (List.getElem?_eq_some_iff.1 hy).1
    rw [List.length_append] at hlt
    simp at hlt
    omega

/-- what is there: at which place, and with which key. -/
theorem Heap.there {ps : List Th} {wh : List Int} {f : Int → Option Int} (h : Heap ps wh f) {d : Nat} {k : Nat} (hd : wh[d]? = some ((k : Int) + 1)) : ∃ y, ps[k]? = some y ∧ y.2 = d ∧ f d = some y.1 := by
  have hdl := (List.getElem?_eq_some_iff.1 hd).1
  rcases h.back d hdl with ⟨h0, _⟩ | ⟨i, y, hw, hy, e, hf⟩
  · rw [hd] at h0
    have := Option.some.inj h0
    omega
  · rw [hd] at hw
    have := Option.some.inj hw
    obtain rfl : k = i := by omega
    exact ⟨y, hy, e, hf⟩
/-- the thing at place k is taken out; the last one goes to that place, if it is another. -/
theorem Heap.out {ps : List Th} {wh : List Int} {f : Int → Option Int} (h : Heap ps wh f) {m : Nat} (hl : ps.length = m + 1) {k : Nat} {x last : Th} (hx : ps[k]? = some x) (hlast : ps[m]? = some last) :
    (k = m → Heap (ps.take m) (wh.set x.2.toNat 0) (fun d => if d = x.2 then none else f d)) ∧
    (k ≠ m → Hole (ps.take m) (wh.set x.2.toNat 0) k last.2 (fun d => if d = x.2 then none else f d)) := by
  have hkl := (List.getElem?_eq_some_iff.1 hx).1
  obtain ⟨x0, x1, x2⟩ := h.idr k x hx
  obtain ⟨l0, l1, l2⟩ := h.idr m last hlast
  have hxl : x.2.toNat < wh.length := by omega
  have hget : ∀ (i : Nat) (y : Th), (ps.take m)[i]? = some y → i < m ∧ ps[i]? = some y := fun i y hy => by
    rw [List.getElem?_take] at hy
    split at hy
    · exact ⟨by assumption, hy⟩
    · cases hy
  have hput : ∀ (i : Nat) (y : Th), i < m → ps[i]? = some y → (ps.take m)[i]? = some y := fun i y hi hy => by rw [List.getElem?_take, if_pos hi]; exact hy
  have hidr : ∀ (i : Nat) (y : Th), i ≠ k → ps[i]? = some y → y.2 ≠ x.2 ∧ (wh.set x.2.toNat 0)[y.2.toNat]? = some ((i : Int) + 1) := fun i y hi hy => by
    obtain ⟨y0, y1, y2⟩ := h.idr i y hy
    have hne : y.2 ≠ x.2 := fun e => by
      rw [e, x2] at y2
      have := Option.some.inj y2
      omega
    exact ⟨hne, by rw [set_other _ (by omega)]; exact y2⟩
  constructor
  · intro hke
    subst hke
    refine ⟨?_, ?_, ?_⟩
    · intro i y hy
      obtain ⟨hi, hy'⟩ := hget i y hy
      obtain ⟨y0, y1, y2⟩ := h.idr i y hy'
      rw [List.length_set]
      exact ⟨y0, y1, (hidr i y (by omega) hy').2⟩
    · intro d hd
      rw [List.length_set] at hd
      by_cases e : (d : Int) = x.2
      · left
        have : d = x.2.toNat := by omega
        exact ⟨by rw [this]; exact set_same _ hxl, by rw [if_pos e]⟩
      · rw [if_neg e]
        rcases h.back d hd with ⟨h0, h1⟩ | ⟨i, y, hw, hy, e', hf⟩
        · exact Or.inl ⟨by rw [set_other _ (by omega)]; exact h0, h1⟩
        · have hil := (List.getElem?_eq_some_iff.1 hy).1
          have hik : i ≠ k := fun e2 => by
            subst e2
            obtain rfl : x = y := Option.some.inj (hx.symm.trans hy)
            exact e e'.symm
          exact Or.inr ⟨i, y, by rw [set_other _ (by omega)]; exact hw, hput i y (by omega) hy, e', hf⟩
    · intro i y p hi hy hp
      exact h.ord i y p hi (hget i y hy).2 (hget _ p hp).2
  · intro hke
    refine ⟨by rw [List.length_take]; omega, by rw [List.length_set]; exact ⟨l0, l1⟩, ?_, ?_, ?_, ?_⟩
    · intro i y hi hy
      obtain ⟨hie, hy'⟩ := hget i y hy
      obtain ⟨y0, y1, y2⟩ := h.idr i y hy'
      rw [List.length_set]
      refine ⟨y0, y1, fun e2 => ?_, (hidr i y hi hy').2⟩
      rw [e2, l2] at y2
      have := Option.some.inj y2
      omega
    · intro d hd hne
      rw [List.length_set] at hd
      by_cases e : (d : Int) = x.2
      · left
        have : d = x.2.toNat := by omega
        exact ⟨by rw [this]; exact set_same _ hxl, by rw [if_pos e]⟩
      · rw [if_neg e]
        rcases h.back d hd with ⟨h0, h1⟩ | ⟨i, y, hw, hy, e', hf⟩
        · exact Or.inl ⟨by rw [set_other _ (by omega)]; exact h0, h1⟩
        · have hil := (List.getElem?_eq_some_iff.1 hy).1
          have hik : i ≠ k := fun e2 => by
            subst e2
            obtain rfl : x = y := Option.some.inj (hx.symm.trans hy)
            exact e e'.symm
          have hil2 : i ≠ m := fun e2 => by
            subst e2
            obtain rfl : last = y := Option.some.inj (hlast.symm.trans hy)
            exact hne e'.symm
          exact Or.inr ⟨i, y, hik, by rw [set_other _ (by omega)]; exact hw, hput i y (by omega) hy, e', hf⟩
    · intro i y p hi _ _ hy hp
      exact h.ord i y p hi (hget i y hy).2 (hget _ p hp).2
    · intro i y p hi hpos hpa hy hp
      exact ltT_not_trans (h.ord i y x hi (hget i y hy).2 (by rw [hpa]; exact hx)) (h.ord k x p hpos hx (hget _ p hp).2)

/-- nothing is less than what stands first. -/
theorem Heap.least {ps : List Th} {wh : List Int} {f : Int → Option Int} (h : Heap ps wh f) {t : Th} (ht : ps[0]? = some t) : ∀ (i : Nat) (y : Th), ps[i]? = some y → ¬ ltT y t := by
  intro i
  induction i using Nat.strongRecOn with
  | _ i ih =>
    intro y hy
    by_cases h0 : i = 0
    · subst h0
      obtain rfl : t = y := Option.some.inj (ht.symm.trans hy)
      exact ltT_irrefl _
    · have hlt := (List.getElem?_eq_some_iff.1 hy).1
      have hp : ps[(i - 1) / 4]? = some ps[(i - 1) / 4] := List.getElem?_eq_getElem (by omega)
      exact ltT_not_trans (h.ord i y _ (by omega) hy hp) (ih _ (by omega) _ hp)
theorem Heap.top {ps : List Th} {wh : List Int} {f : Int → Option Int} (h : Heap ps wh f) {t : Th} (ht : ps[0]? = some t) : f t.2 = some t.1 ∧ (0 ≤ t.2 ∧ t.2 < wh.length) ∧ ∀ (d : Nat) k, d < wh.length → f d = some k → ¬ ltT (k, (d : Int)) t := by
  obtain ⟨t0, t1, t2⟩ := h.idr 0 t ht
  refine ⟨?_, ⟨t0, t1⟩, fun d k hd hk => ?_⟩
  · obtain ⟨y, hy, e, hf⟩ := h.there (d := t.2.toNat) (k := 0) (by simpa using t2)
    obtain rfl : t = y := Option.some.inj (ht.symm.trans hy)
    have : ((t.2.toNat : Nat) : Int) = t.2 := by omega
    rw [this] at hf
    exact hf
  · rcases h.back d hd with ⟨_, h1⟩ | ⟨i, y, hw, hy, e, hf⟩
    · rw [h1] at hk; cases hk
    · rw [hf] at hk
      cases hk
      have := h.least ht i y hy
      rw [← e]
      exact this
theorem Heap.empty {ps : List Th} {wh : List Int} {f : Int → Option Int} (h : Heap ps wh f) (hp : ps = []) : ∀ d : Nat, d < wh.length → f d = none := by
  intro d hd
  subst hp
  rcases h.back d hd with ⟨_, h1⟩ | ⟨i, y, hw, hy, e, hf⟩
  · exact h1
  · simp at hy
theorem Heap.new (n : Nat) : Heap [] (List.replicate n 0) (fun _ => none) :=
  ⟨fun i y h => by simp at h, fun d hd => Or.inl ⟨by rw [List.getElem?_replicate, if_pos (by simpa using hd)], rfl⟩, fun i y p _ h => by simp at h⟩
end Go.Proofs.YtodilocmfdeehaaGreatDoor.Hp

namespace Go.Proofs.YtodilocmfdeehaaGreatDoor.Hp
open Go.RowKit

theorem heap_new (w : World) (o : Obj) : (w.alloc o).heap[w.heap.size]? = some o := by show (w.heap.push _)[w.heap.size]? = _; simp
theorem lt_of_get {w : World} {k : Nat} {o : Obj} (h : w.heap[k]? = some o) : k < w.heap.size := by
  rcases Nat.lt_or_ge k w.heap.size with h' | h'
  · exact h'
  · rw [Array.getElem?_eq_none h'] at h; cases h
theorem heap_setCell_same {w : World} {b o : Nat} {c : Array Value} {t : TypeId} (v : Value) (h : w.heap[b]? = some (.cells c t)) : (w.setCell ⟨b, o, none⟩ v).heap[b]? = some (.cells (c.setIfInBounds o v) t) := by
  simp only [World.setCell, Array.getElem?_modify]
  rw [if_pos trivial, h]
  rfl
theorem cells_at {w : World} {b : Nat} {c : Array Value} {t : TypeId} (h : w.heap[b]? = some (.cells c t)) (o : Nat) : w.cell? ⟨b, o, none⟩ = c[o]? ∧ w.frozen? ⟨b, o, none⟩ = false := by
  simp [World.cell?, World.frozen?, h]

/-- the cells of things. -/
def flatT (l : List Th) : List Value := l.flatMap fun a => [.int .u64 a.1, .int .u32 a.2]
theorem flatT_append (l r : List Th) : flatT (l ++ r) = flatT l ++ flatT r := by simp [flatT]
theorem flatT_get : ∀ (l : List Th) (i : Nat) (a : Th), l[i]? = some a → (flatT l)[i * 2]? = some (.int .u64 a.1) ∧ (flatT l)[i * 2 + 1]? = some (.int .u32 a.2)
  | [], i, a, h => by simp at h
  | b :: r, 0, a, h => by
    simp at h
    subst h
    simp [flatT]
  | b :: r, i + 1, a, h => by
    have ih := flatT_get r i a (by simpa using h)
    have e : flatT (b :: r) = [.int .u64 b.1, .int .u32 b.2] ++ flatT r := by simp [flatT]
    rw [e, show (i + 1) * 2 = i * 2 + 2 by omega]
    refine ⟨?_, ?_⟩
    · rw [List.getElem?_append_right (by simp)]; simpa using ih.1
    · rw [List.getElem?_append_right (by simp)]; simpa [show i * 2 + 2 + 1 - 2 = i * 2 + 1 by omega] using ih.2
theorem flatT_set (l : List Th) (i : Nat) (a : Th) : flatT (l.set i a) = ((flatT l).set (i * 2) (.int .u64 a.1)).set (i * 2 + 1) (.int .u32 a.2) := by
  induction l generalizing i with
  | nil => simp [flatT]
  | cons b r ih =>
    cases i with
    | zero => simp [flatT]
    | succ i =>
      have e : ∀ x (q : List Th), flatT (x :: q) = .int .u64 x.1 :: .int .u32 x.2 :: flatT q := fun x q => by simp [flatT]
      rw [List.set_cons_succ, e, e, ih i, show (i + 1) * 2 = i * 2 + 1 + 1 by omega, List.set_cons_succ, List.set_cons_succ, List.set_cons_succ, List.set_cons_succ]
theorem flatT_take (l : List Th) (m : Nat) : flatT (l.take m) = (flatT l).take (m * 2) := by
  induction l generalizing m with
  | nil => simp [flatT]
  | cons b r ih =>
    cases m with
    | zero => simp [flatT]
    | succ m =>
      have e : ∀ x (q : List Th), flatT (x :: q) = .int .u64 x.1 :: .int .u32 x.2 :: flatT q := fun x q => by simp [flatT]
      rw [List.take_succ_cons, e, e, ih m, show (m + 1) * 2 = m * 2 + 1 + 1 by omega, List.take_succ_cons, List.take_succ_cons]

/-- a heap's memory. -/
structure Mem (w : World) (hb wb n : Nat) (sv : Value) (ps : List Th) (wh : List Int) : Prop where
  box : w.heap[hb]? = some (.cells #[sv, .slice (some ⟨wb, 0, none⟩) n n] 231)
  row : w.ownsRow 0 240 2 sv ps.length (flatT ps)
  whr : w.heap[wb]? = some (.cells (wh.map (Value.int .u32)).toArray 62)
  len : wh.length = n
  big : n ≤ 65536
  hw : hb ≠ wb
  hp : sv.ownBlock ≠ some hb
  wp : sv.ownBlock ≠ some wb

/-- what a call on a heap leaves alone: all but the heap's own blocks. -/
structure Fr (hb wb : Nat) (sv sv' : Value) (w w' : World) : Prop where
  os : w'.os = w.os
  tape : w'.tape = w.tape
  output : w'.output = w.output
  size : w.heap.size ≤ w'.heap.size
  block : ∀ k, k < w.heap.size → k ≠ hb → k ≠ wb → some k ≠ sv.ownBlock → w'.heap[k]? = w.heap[k]?
  own : ∀ k, k < w.heap.size → sv'.ownBlock = some k → sv.ownBlock = some k

theorem Fr.refl (hb wb : Nat) (sv : Value) (w : World) : Fr hb wb sv sv w w := ⟨rfl, rfl, rfl, Nat.le_refl _, fun _ _ _ _ _ => rfl, fun _ _ h => h⟩
theorem Fr.trans {hb wb : Nat} {sv sv' sv'' : Value} {w w' w'' : World} (h : Fr hb wb sv sv' w w') (k : Fr hb wb sv' sv'' w' w'') : Fr hb wb sv sv'' w w'' :=
  ⟨k.os.trans h.os, k.tape.trans h.tape, k.output.trans h.output, Nat.le_trans h.size k.size,
   fun j hj h1 h2 h3 => (k.block j (Nat.lt_of_lt_of_le hj h.size) h1 h2 (fun e => h3 (h.own j hj e.symm).symm)).trans (h.block j hj h1 h2 h3),
   fun j hj e => h.own j hj (k.own j (Nat.lt_of_lt_of_le hj h.size) e)⟩
theorem Fr.of_below {hb wb : Nat} {sv : Value} {w w' : World} (h : Below w.heap.size w w') : Fr hb wb sv sv w w' :=
  ⟨h.os, h.tape, h.output, h.size, fun k hk _ _ _ => h.block k hk, fun _ _ e => e⟩
theorem Fr.drew {hb wb : Nat} {sv sv' : Value} {w w' : World} (h : Fr hb wb sv sv' w w') : Fr hb wb sv sv' w w'.drew := ⟨h.os, h.tape, h.output, h.size, h.block, h.own⟩

theorem Mem.keep {w w' : World} {hb wb n : Nat} {sv : Value} {ps : List Th} {wh : List Int} (h : Mem w hb wb n sv ps wh) (hk : ∀ k, k < w.heap.size → (k = hb ∨ k = wb ∨ sv.ownBlock = some k) → w'.heap[k]? = w.heap[k]?) : Mem w' hb wb n sv ps wh := by
  refine ⟨(hk hb (lt_of_get h.box) (Or.inl rfl)).trans h.box, ?_, (hk wb (lt_of_get h.whr) (Or.inr (Or.inl rfl))).trans h.whr, h.len, h.big, h.hw, h.hp, h.wp⟩
  obtain ⟨h1, h2⟩ := h.row
  refine ⟨h1, ?_⟩
  rcases h2 with h2 | ⟨g, cap, cur, e, hb', hh, r⟩
  · exact Or.inl h2
  · exact Or.inr ⟨g, cap, cur, e, hb', (hk g (lt_of_get hh) (Or.inr (Or.inr (by rw [e]; rfl)))).trans hh, r⟩
theorem Mem.below {w w' : World} {hb wb n : Nat} {sv : Value} {ps : List Th} {wh : List Int} (h : Mem w hb wb n sv ps wh) (hb' : Below w.heap.size w w') : Mem w' hb wb n sv ps wh := h.keep fun k hk _ => hb'.block k hk
theorem Mem.drew {w : World} {hb wb n : Nat} {sv : Value} {ps : List Th} {wh : List Int} (h : Mem w hb wb n sv ps wh) : Mem w.drew hb wb n sv ps wh := h.keep fun _ _ _ => rfl

section
variable {w : World} {hb wb n : Nat} {sv : Value} {ps : List Th} {wh : List Int}
theorem Mem.cells (h : Mem w hb wb n sv ps wh) : w.cell? ⟨hb, 0, none⟩ = some sv ∧ w.cell? ⟨hb, 1, none⟩ = some (.slice (some ⟨wb, 0, none⟩) n n) ∧ w.frozen? ⟨hb, 0, none⟩ = false ∧ w.frozen? ⟨hb, 1, none⟩ = false := by
  simp [World.cell?, World.frozen?, h.box]
theorem Mem.where_ (h : Mem w hb wb n sv ps wh) {d : Nat} {p : Int} (hd : wh[d]? = some p) : w.cell? ⟨wb, d, none⟩ = some (.int .u32 p) ∧ w.frozen? ⟨wb, d, none⟩ = false := by
  refine ⟨(cells_at h.whr d).1.trans ?_, (cells_at h.whr d).2⟩
  simp [hd]
theorem Mem.shape (h : Mem w hb wb n sv ps wh) : ∃ so cap, sv = .slice so ps.length cap ∧ ps.length ≤ cap ∧ cap ≤ maxLen := by
  rcases h.row.2 with ⟨e, h0⟩ | ⟨g, cap, cur, e, _, _, h1, h2, _⟩
  · exact ⟨none, 0, by rw [h0]; exact e, by omega, by unfold maxLen; omega⟩
  · exact ⟨_, cap, e, h1, h2⟩
theorem Mem.thing (h : Mem w hb wb n sv ps wh) {i : Nat} {t : Th} (hi : ps[i]? = some t) : ∃ g cap, sv = .slice (some ⟨g, 0, none⟩) ps.length cap ∧ ps.length ≤ cap ∧ cap ≤ maxLen ∧ g < w.heap.size ∧ g ≠ hb ∧ g ≠ wb ∧
    w.cell? ⟨g, i * 2, none⟩ = some (.int .u64 t.1) ∧ w.cell? ⟨g, i * 2 + 1, none⟩ = some (.int .u32 t.2) ∧ w.frozen? ⟨g, i * 2, none⟩ = false ∧ w.frozen? ⟨g, i * 2 + 1, none⟩ = false := by
  have hlt := (List.getElem?_eq_some_iff.1 hi).1
  have h1 := h.hp
  have h2 := h.wp
  have hrow := h.row
  rcases h.row.2 with ⟨e, h0⟩ | ⟨g, cap, cur, rfl, _, hh, hc, hm, hs, ht⟩
  · omega
  · obtain ⟨g0, g1⟩ := flatT_get ps i t hi
    exact ⟨g, cap, rfl, hc, hm, lt_of_get hh, fun e => h1 (by rw [e]; rfl), fun e => h2 (by rw [e]; rfl), (hrow.cellAt (i * 2) (by omega)).trans g0, (hrow.cellAt (i * 2 + 1) (by omega)).trans g1, (cells_at hh _).2, (cells_at hh _).2⟩

/-- a thing is laid at a place of the row. -/
theorem Mem.put {g cap : Nat} (h : Mem w hb wb n (.slice (some ⟨g, 0, none⟩) ps.length cap) ps wh) (i : Nat) (t : Th) :
    Mem ((w.setCell ⟨g, i * 2, none⟩ (.int .u64 t.1)).setCell ⟨g, i * 2 + 1, none⟩ (.int .u32 t.2)) hb wb n (.slice (some ⟨g, 0, none⟩) (ps.set i t).length cap) (ps.set i t) wh := by
  have h1 : g ≠ hb := fun e => h.hp (by rw [e]; rfl)
  have h2 : g ≠ wb := fun e => h.wp (by rw [e]; rfl)
  have hk : ∀ k, k ≠ g → ((w.setCell ⟨g, i * 2, none⟩ (.int .u64 t.1)).setCell ⟨g, i * 2 + 1, none⟩ (.int .u32 t.2)).heap[k]? = w.heap[k]? := fun k hk => (heap_setCell_other _ _ _ _ hk).trans (heap_setCell_other _ _ _ _ hk)
  refine ⟨?_, ?_, (hk wb (Ne.symm h2)).trans h.whr, h.len, h.big, h.hw, h.hp, h.wp⟩
  · rw [List.length_set]; exact (hk hb (Ne.symm h1)).trans h.box
  · rw [List.length_set]
    rcases h.row with ⟨hl, ⟨e, h0⟩ | ⟨g', cap', cur, e, hb', hh, hc, hm, hs, ht⟩⟩
    · cases e
    · cases e
      refine ⟨by rw [flatT_set]; simpa using hl, Or.inr ⟨g, cap, _, rfl, hb', heap_setCell_same _ (heap_setCell_same _ hh), hc, hm, by simpa using hs, ?_⟩⟩
      rw [flatT_set, ← ht]
      simp [Array.toList_setIfInBounds, List.take_set]
/-- a number is laid in the row of places. -/
theorem Mem.mark (h : Mem w hb wb n sv ps wh) (d : Nat) (p : Int) : Mem (w.setCell ⟨wb, d, none⟩ (.int .u32 p)) hb wb n sv ps (wh.set d p) := by
  have hk : ∀ k, k ≠ wb → (w.setCell ⟨wb, d, none⟩ (.int .u32 p)).heap[k]? = w.heap[k]? := fun k hk => heap_setCell_other _ _ _ _ hk
  refine ⟨(hk hb h.hw).trans h.box, ?_, ?_, by rw [List.length_set]; exact h.len, h.big, h.hw, h.hp, h.wp⟩
  · obtain ⟨h1, h2⟩ := h.row
    refine ⟨h1, ?_⟩
    rcases h2 with h2 | ⟨g, cap, cur, e, hb', hh, r⟩
    · exact Or.inl h2
    · refine Or.inr ⟨g, cap, cur, e, hb', (hk g (fun e' => h.wp ?_)).trans hh, r⟩
      rw [e, e']; rfl
  · rw [heap_setCell_same _ h.whr]
    congr 2
    rw [List.setIfInBounds_toArray, List.map_set]
/-- the struct's first field is laid anew. -/
theorem Mem.field {sv' : Value} {ps' : List Th} (h : Mem w hb wb n sv ps wh) (hr : w.ownsRow 0 240 2 sv' ps'.length (flatT ps')) (h1 : sv'.ownBlock ≠ some hb) (h2 : sv'.ownBlock ≠ some wb) : Mem (w.setCell ⟨hb, 0, none⟩ sv') hb wb n sv' ps' wh := by
  have hk : ∀ k, k ≠ hb → (w.setCell ⟨hb, 0, none⟩ sv').heap[k]? = w.heap[k]? := fun k hk => heap_setCell_other _ _ _ _ hk
  refine ⟨?_, ?_, (hk wb (Ne.symm h.hw)).trans h.whr, h.len, h.big, h.hw, h1, h2⟩
  · rw [heap_setCell_same _ h.box]; rfl
  · obtain ⟨r1, r2⟩ := hr
    refine ⟨r1, ?_⟩
    rcases r2 with r2 | ⟨g, cap, cur, e, hb', hh, r⟩
    · exact Or.inl r2
    · exact Or.inr ⟨g, cap, cur, e, hb', (hk g (fun e' => h1 (by rw [e, e']; rfl))).trans hh, r⟩
/-- the row is cut short. -/
theorem Mem.short {g cap m : Nat} (h : Mem w hb wb n (.slice (some ⟨g, 0, none⟩) ps.length cap) ps wh) (hm : m ≤ ps.length) : w.ownsRow 0 240 2 (.slice (some ⟨g, 0, none⟩) (ps.take m).length cap) (ps.take m).length (flatT (ps.take m)) := by
  have hlen : (ps.take m).length = m := by rw [List.length_take]; omega
  rw [hlen]
  rcases h.row with ⟨hl, ⟨e, h0⟩ | ⟨g', cap', cur, e, hb', hh, hc, hmx, hs, ht⟩⟩
  · cases e
  · cases e
    refine ⟨by rw [flatT_take, List.length_take, hl]; omega, Or.inr ⟨g, cap, cur, rfl, hb', hh, by omega, hmx, hs, ?_⟩⟩
    rw [flatT_take, ← ht, List.take_take, Nat.min_eq_left (by omega)]
end
end Go.Proofs.YtodilocmfdeehaaGreatDoor.Hp

namespace Go.Proofs.YtodilocmfdeehaaGreatDoor.Hp
open Go.RowKit

attribute [local go_sem] Oper.semAt_some

/-- by keys, alike ones by ids. -/
def ltB (x y : Th) : Bool := decide (ltT x y)
theorem ltB_true {x y : Th} (h : ltT x y) : ltB x y = true := decide_eq_true h
theorem ltB_false {x y : Th} (h : ¬ ltT x y) : ltB x y = false := decide_eq_false h

set_option maxHeartbeats 1000000 in
theorem less_calls (a b c d : Int) (w : World) : Calls Tryz.prog 143 #[.agg #[.int .u64 a, .int .u32 b], .agg #[.int .u64 c, .int .u32 d]] w fun e w' => e = .returned (.bool (ltB (a, b) (c, d))) ∧ Below w.heap.size w w' := by
  have HB : Hid (Below w.heap.size w ((w.alloc (.cells #[.int .u64 a, .int .u32 b] 240)).alloc (.cells #[.int .u64 c, .int .u32 d] 240))) := ((Below.refl _ w).alloc (Nat.le_refl _) _).alloc (by simp) _
  rcases (show a < c ∨ (¬ a < c ∧ a = c ∧ b < d) ∨ (¬ a < c ∧ a = c ∧ ¬ b < d) ∨ (¬ a < c ∧ ¬ a = c) by omega) with h | ⟨h, rfl, h2⟩ | ⟨h, rfl, h2⟩ | ⟨h, h1⟩
  · rw [ltB_true (Or.inl h)]
    go_enter Tryz.func143, Tryz.ntmps143
    go_wp2
    go_ret
    exact ⟨rfl, HB.out⟩
  · rw [ltB_true (show ltT (a, b) (a, d) from Or.inr ⟨rfl, h2⟩)]
    go_enter Tryz.func143, Tryz.ntmps143
    go_wp2
    go_ret
    exact ⟨rfl, HB.out⟩
  · rw [ltB_false (by unfold ltT; simp only; omega)]
    go_enter Tryz.func143, Tryz.ntmps143
    go_wp2
    go_ret
    exact ⟨rfl, HB.out⟩
  · rw [ltB_false (by unfold ltT; simp only; omega)]
    go_enter Tryz.func143, Tryz.ntmps143
    go_wp2
    go_ret
    exact ⟨rfl, HB.out⟩

section
variable {hb wb n : Nat} {sv : Value} {ps : List Th} {wh : List Int} {w : World}

set_option maxHeartbeats 1000000 in
/-- place of a thing that isn't in. -/
theorem place_out (h : Mem w hb wb n sv ps wh) (d : Nat) (hd : wh[d]? = some 0) : Calls Tryz.prog 139 #[.pointer (some ⟨hb, 0, none⟩), .int .u32 d] w fun e w' => e = .returned (.tuple #[.int .i64 0, .bool false]) ∧ w' = w := by
  obtain ⟨c0, c1, _, _⟩ := h.cells
  obtain ⟨c2, _⟩ := h.where_ hd
  have hlt := (List.getElem?_eq_some_iff.1 hd).1
  have hbig := h.big
  have hd' : (d : Int) < (n : Int) := by have := h.len; omega
  have hd0 : (0 : Int) ≤ (d : Int) := by omega
  clear h
  go_enter Tryz.func139, Tryz.ntmps139
  go_wp2
  go_ret2
  exact ⟨rfl, rfl⟩

set_option maxHeartbeats 1000000 in
/-- place of a thing that is in. -/
theorem place_in (h : Mem w hb wb n sv ps wh) (d k : Nat) (hd : wh[d]? = some ((k : Int) + 1)) (hk : k ≤ 65536) : Calls Tryz.prog 139 #[.pointer (some ⟨hb, 0, none⟩), .int .u32 d] w fun e w' => e = .returned (.tuple #[.int .i64 k, .bool true]) ∧ w' = w := by
  obtain ⟨c0, c1, _, _⟩ := h.cells
  obtain ⟨c2, _⟩ := h.where_ hd
  have hlt := (List.getElem?_eq_some_iff.1 hd).1
  have hbig := h.big
  have hd' : (d : Int) < (n : Int) := by have := h.len; omega
  have hd0 : (0 : Int) ≤ (d : Int) := by omega
  have hne : ((k : Int) + 1 == 0) = false := by simp; omega
  clear h
  go_enter Tryz.func139, Tryz.ntmps139
  go_wp2
  go_ret2
  exact ⟨rfl, rfl⟩

set_option maxHeartbeats 1000000 in
theorem len_calls (h : Mem w hb wb n sv ps wh) : Calls Tryz.prog 138 #[.pointer (some ⟨hb, 0, none⟩)] w fun e w' => e = .returned (.int .i64 ps.length) ∧ w' = w := by
  obtain ⟨c0, c1, _, _⟩ := h.cells
  obtain ⟨so, cap, rfl, _, _⟩ := h.shape
  clear h
  go_enter Tryz.func138, Tryz.ntmps138
  go_wp2
  go_ret
  exact ⟨rfl, rfl⟩
end
end Go.Proofs.YtodilocmfdeehaaGreatDoor.Hp

namespace Go.Proofs.YtodilocmfdeehaaGreatDoor.Hp
open Go.RowKit

attribute [local go_sem] Oper.semAt_some

theorem Tryz.info75 : (Tryz.prog.info? 240).map (fun i => (i.zero, i.size, i.bytes)) = some (some (.agg #[.int .u64 0, .int .u32 0]), 2, 16) := by kernel_rfl

/-- one thing is copied within a row. -/
theorem run_copy_thing (w : World) (ty : TypeId) (g o o' c c' : Nat) (a b x y : Value) (h0 : w.cell? ⟨g, o', none⟩ = some a) (h1 : w.cell? ⟨g, o' + 1, none⟩ = some b) (k0 : w.cell? ⟨g, o, none⟩ = some x) (k1 : w.cell? ⟨g, o + 1, none⟩ = some y)
    (f0 : w.frozen? ⟨g, o, none⟩ = false) (f1 : w.frozen? ⟨g, o + 1, none⟩ = false) (ha : a.oneCell' = true) (hb : b.oneCell' = true) :
    (Builtin.copy_ #[229, 229] ty #[.slice (some ⟨g, o, none⟩) 1 c, .slice (some ⟨g, o', none⟩) 1 c']).run Tryz.prog w = .ok (goInt 1) ((w.setCell ⟨g, o, none⟩ a).setCell ⟨g, o + 1, none⟩ b) := by
  have hl := run_loadCells_list (P := Tryz.prog) w ⟨g, o', none⟩ [a, b] (fun j v hj => by
    rcases j with _ | _ | j
    · simp at hj; subst hj; simpa [Addr.add] using h0
    · simp at hj; subst hj; simpa [Addr.add] using h1
    · simp at hj)
  have hst := run_storeCells_cells (P := Tryz.prog) g o [a, b] 0 w (fun j hj => by
      rcases j with _ | _ | j
      · simp [k0]
      · simp [k1]
      · simp at hj; omega) (fun j hj => by
      rcases j with _ | _ | j
      · simpa using f0
      · simpa using f1
      · simp at hj; omega) (fun v hv => by simp at hv; rcases hv with rfl | rfl <;> assumption)
  obtain ⟨i0, hi, hz1⟩ : ∃ i, Tryz.prog.info? 240 = some i ∧ i.size = 2 := by
    have h := Tryz.info75
    cases hi : Tryz.prog.info? 240 with
    | none => rw [hi] at h; cases h
    | some i => rw [hi] at h; simp at h; exact ⟨i, rfl, h.2.1⟩
  simp only [List.length_cons, List.length_nil, Nat.zero_add] at hl
  simp [Builtin.copy_, run_underlying Tryz.underlying229, Builtin.lenOf, Builtin.firstCells, sizeOf, typeInfo, hi, hz1, hl, hst, World.setCells]

theorem Tryz.elem60 : Tryz.prog.underlying 229 = some (.slice (Tryz.prog.elem 229)) := by kernel_rfl
theorem Tryz.size60 (w : World) : (sizeOf (Tryz.prog.elem 229)).run Tryz.prog w = .ok 2 w := by kernel_rfl
/-- 'places[i:i+1]'. -/
theorem slice_one (w : World) (g m cap i : Nat) (h : i < cap) : (Instr.slice 229 (.slice (some ⟨g, 0, none⟩) m cap) (some (.int .i64 (i : Int))) (some (.int .i64 ((i : Int) + 1))) none).run Tryz.prog w = .ok (.slice (some ⟨g, i * 2, none⟩) 1 (cap - i)) w := by
  rw [run_slice_lh (ht := Tryz.elem60) (h0 := by omega) (h1 := by omega) (h2 := by omega), Tryz.size60]
  have e1 : ((i : Int) + 1).toNat = i + 1 := by omega
  have e2 : (i : Int).toNat = i := by omega
  simp only [Result.andThen_ok, sliced, e1, e2]
  rw [if_neg (by omega)]
  simp [Addr.add]
  omega

theorem Fr.put {hb wb g o m cap : Nat} {sv : Value} {w w' : World} (h : Fr hb wb sv (.slice (some ⟨g, 0, none⟩) m cap) w w') (v : Value) : Fr hb wb sv (.slice (some ⟨g, 0, none⟩) m cap) w (w'.setCell ⟨g, o, none⟩ v) :=
  ⟨h.os, h.tape, h.output, by simpa using h.size, fun k hk h1 h2 h3 => (heap_setCell_other _ _ _ _ (fun e => h3 (h.own k hk (by rw [e]; rfl)).symm)).trans (h.block k hk h1 h2 h3), h.own⟩
theorem Fr.mark {hb wb o : Nat} {sv sv' : Value} {w w' : World} (h : Fr hb wb sv sv' w w') (v : Value) : Fr hb wb sv sv' w (w'.setCell ⟨wb, o, none⟩ v) :=
  ⟨h.os, h.tape, h.output, by simpa using h.size, fun k hk h1 h2 h3 => (heap_setCell_other _ _ _ _ h2).trans (h.block k hk h1 h2 h3), h.own⟩

set_option maxRecDepth 100000 in
set_option maxHeartbeats 1000000 in
theorem move_calls {hb wb n g cap m : Nat} {ps : List Th} {wh : List Int} {w : World} (h : Mem w hb wb n (.slice (some ⟨g, 0, none⟩) m cap) ps wh) (hm : ps.length = m) (hm6 : m ≤ 65536) (free from_ d : Nat) (x : Th) (yk : Int) (hx : ps[free]? = some x) (hy : ps[from_]? = some (yk, (d : Int))) (hdn : d < n) :
    Calls Tryz.prog 144 #[.pointer (some ⟨hb, 0, none⟩), .int .i64 free, .int .i64 from_] w fun e w' => e = .returned (.tuple #[]) ∧ Mem w' hb wb n (.slice (some ⟨g, 0, none⟩) m cap) (ps.set free (yk, (d : Int))) (wh.set d ((free : Int) + 1)) ∧ Fr hb wb (.slice (some ⟨g, 0, none⟩) m cap) (.slice (some ⟨g, 0, none⟩) m cap) w w' := by
  have hfl := (List.getElem?_eq_some_iff.1 hx).1
  have hfr := (List.getElem?_eq_some_iff.1 hy).1
  obtain ⟨c0, c1, _, _⟩ := h.cells
  obtain ⟨g', cap', e, hc1, hc2, hgl, hgh, hgw, k0, k1, f0, f1⟩ := h.thing hx
  cases e
  obtain ⟨g', cap', e, _, _, _, _, _, h0, h1, _, _⟩ := h.thing hy
  cases e
  have b1 : (0 : Int) ≤ (free : Int) := by omega
  have b2 : (free : Int) + 1 ≤ (cap : Int) := by omega
  have b3 : (0 : Int) ≤ (from_ : Int) := by omega
  have b4 : (from_ : Int) + 1 ≤ (cap : Int) := by omega
  have b5 : (free : Int) < (ps.length : Int) := by omega
  have b6 : (ps.length : Int) ≤ (cap : Int) := by omega
  have b7 : (0 : Int) ≤ (d : Int) := by omega
  have b8 : (d : Int) < (n : Int) := by omega
  have v1 : IntKind.i64.wrap ((free : Int) + 1) = (free : Int) + 1 := by rw [IntKind.wrap_i64]; omega
  have v2 : IntKind.i64.wrap ((from_ : Int) + 1) = (from_ : Int) + 1 := by rw [IntKind.wrap_i64]; omega
  clear hm
  have s1 := fun wx => slice_one wx g ps.length cap free (by omega)
  have s2 := fun wx => slice_one wx g ps.length cap from_ (by omega)
  have hcp := run_copy_thing w.drew 3 g (free * 2) (from_ * 2) (cap - free) (cap - from_) _ _ _ _ h0 h1 k0 k1 f0 f1 rfl rfl
  obtain ⟨W1, hW1⟩ : ∃ W1, (w.drew.setCell ⟨g, free * 2, none⟩ (.int .u64 yk)).setCell ⟨g, free * 2 + 1, none⟩ (.int .u32 (d : Int)) = W1 := ⟨_, rfl⟩
  have hM1 : Mem W1 hb wb n (.slice (some ⟨g, 0, none⟩) (ps.set free (yk, (d : Int))).length cap) (ps.set free (yk, (d : Int))) wh := by rw [← hW1]; exact h.drew.put free (yk, (d : Int))
  have HF1 : Hid (Fr hb wb (.slice (some ⟨g, 0, none⟩) ps.length cap) (.slice (some ⟨g, 0, none⟩) ps.length cap) w W1) := by rw [← hW1]; exact ((Fr.refl _ _ _ w).drew.put _).put _
  rw [hW1] at hcp
  have HM1 : Hid (Mem W1 hb wb n (.slice (some ⟨g, 0, none⟩) ps.length cap) (ps.set free (yk, (d : Int))) wh) := by rw [List.length_set] at hM1; exact hM1
  obtain ⟨q0, q1, _, _⟩ := HM1.out.cells
  obtain ⟨_, _, e, _, _, _, _, _, r0, r1, _, _⟩ := hM1.thing (i := free) (t := (yk, (d : Int))) (set_same _ hfl)
  cases e
  obtain ⟨p, hp⟩ : ∃ p, wh[d]? = some p := ⟨wh[d]'(by have := h.len; omega), List.getElem?_eq_getElem _⟩
  obtain ⟨r2, r3⟩ := hM1.where_ hp
  have n1 : hb ≠ wb := h.hw
  have n2 : wb ≠ hb := Ne.symm n1
  have n3 : wb ≠ g := Ne.symm hgw
  have u1 : IntKind.u32.wrap (free : Int) = free := by rw [IntKind.wrap_u32]; omega
  have u2 : IntKind.u32.wrap ((free : Int) + 1) = (free : Int) + 1 := by rw [IntKind.wrap_u32]; omega
  clear h hM1 hW1 hp
  unfold maxLen at hc2
  go_enter Tryz.func144, Tryz.ntmps144
  go_wp2_with fail
  go_region_held3 (fun w' => w'.cell? ⟨hb, 0, none⟩ = some (.slice (some ⟨g, 0, none⟩) ps.length cap)) (go_keep) (fail)
  clear s1 s2 hcp c0 c1 k0 k1 h0 h1 f0 f1
  go_wp2_with fail
  go_region_held3 (fun w' => w'.cell? ⟨hb, 0, none⟩ = some (.slice (some ⟨g, 0, none⟩) ps.length cap) ∧ w'.cell? ⟨hb, 1, none⟩ = some (.slice (some ⟨wb, 0, none⟩) n n) ∧ w'.cell? ⟨g, free * 2 + 1, none⟩ = some (.int .u32 (d : Int))) (go_keep) (fail)
  go_wp2
  go_end0
  exact ⟨rfl, HM1.out.drew.mark _ _, HF1.out.drew.mark _⟩
end Go.Proofs.YtodilocmfdeehaaGreatDoor.Hp

namespace Go.Proofs.YtodilocmfdeehaaGreatDoor.Hp
open Go.RowKit

attribute [local go_sem] Oper.semAt_some

/-- a heap but for one place, in memory, the thing for it in a box. -/
structure Free (W0 : World) (bx hb wb n g cap m : Nat) (xk xd : Int) (f : Int → Option Int) (free : Nat) (ps : List Th) (wh : List Int) (wr : World) : Prop where
  hole : Hole ps wh free xd f
  mem : Mem wr hb wb n (.slice (some ⟨g, 0, none⟩) m cap) ps wh
  len : ps.length = m
  fr : Fr hb wb (.slice (some ⟨g, 0, none⟩) m cap) (.slice (some ⟨g, 0, none⟩) m cap) W0 wr
  box : wr.heap[bx]? = some (.cells #[.int .u64 xk, .int .u32 xd] 240)
theorem Free.below {W0 : World} {bx hb wb n g cap m : Nat} {xk xd : Int} {f : Int → Option Int} {free : Nat} {ps : List Th} {wh : List Int} {wr w' : World} (h : Free W0 bx hb wb n g cap m xk xd f free ps wh wr) (hb' : Below wr.heap.size wr w') : Free W0 bx hb wb n g cap m xk xd f free ps wh w' :=
  ⟨h.hole, h.mem.below hb', h.len, h.fr.trans (Fr.of_below hb'), (hb'.block _ (lt_of_get h.box)).trans h.box⟩
theorem pair_cells {w : World} {b : Nat} {c0 c1 : Value} {T : TypeId} (h : w.heap[b]? = some (.cells #[c0, c1] T)) : w.cell? ⟨b, 0, none⟩ = some c0 ∧ w.cell? ⟨b, 1, none⟩ = some c1 := by simp [World.cell?, h]

set_option maxRecDepth 100000 in
set_option maxHeartbeats 2000000 in
theorem rise_calls {hb wb n g cap m free : Nat} {ps : List Th} {wh : List Int} {w : World} (xk xd : Int) (f : Int → Option Int) (h : Mem w hb wb n (.slice (some ⟨g, 0, none⟩) m cap) ps wh) (hm : ps.length = m) (hm6 : m ≤ 65536) (hh : Hole ps wh free xd f) :
    Calls Tryz.prog 141 #[.pointer (some ⟨hb, 0, none⟩), .int .i64 free, .agg #[.int .u64 xk, .int .u32 xd]] w fun e w' => ∃ (free' : Nat) (ps' : List Th) (wh' : List Int), e = .returned (.int .i64 free') ∧ Hole ps' wh' free' xd f ∧ Mem w' hb wb n (.slice (some ⟨g, 0, none⟩) m cap) ps' wh' ∧ ps'.length = m ∧ Fr hb wb (.slice (some ⟨g, 0, none⟩) m cap) (.slice (some ⟨g, 0, none⟩) m cap) w w' ∧ (0 < free' → ∀ p, ps'[(free' - 1) / 4]? = some p → ¬ ltT (xk, xd) p) := by
  obtain ⟨W0, hW0⟩ : ∃ W0, w.alloc (.cells #[.int .u64 xk, .int .u32 xd] 240) = W0 := ⟨_, rfl⟩
  have hB0 : Below w.heap.size w W0 := by rw [← hW0]; exact (Below.refl _ w).alloc (Nat.le_refl _) _
  have k0 : W0.heap[w.heap.size]? = some (.cells #[.int .u64 xk, .int .u32 xd] 240) := by rw [← hW0]; exact heap_new _ _
  obtain ⟨bx, hbx⟩ : ∃ bx, w.heap.size = bx := ⟨_, rfl⟩
  have HFR : Hid (Fr hb wb (.slice (some ⟨g, 0, none⟩) m cap) (.slice (some ⟨g, 0, none⟩) m cap) w W0) := Fr.of_below hB0
  have HI0 : Hid (Free W0 bx hb wb n g cap m xk xd f free ps wh W0) := ⟨hh, h.below hB0, hm, Fr.refl _ _ _ _, by rw [← hbx]; exact k0⟩
  have HBX : Hid ((hb < bx ∧ wb < bx ∧ g < bx) ∧ bx < W0.heap.size) := by
    refine ⟨?_, by rw [← hbx]; exact lt_of_get k0⟩
    rw [← hbx]
    refine ⟨lt_of_get h.box, lt_of_get h.whr, ?_⟩
    obtain ⟨y, hy⟩ : ∃ y, ps[free]? = some y := ⟨ps[free]'hh.flt, List.getElem?_eq_getElem _⟩
    obtain ⟨g', cap', e, _, _, hgl, _⟩ := h.thing hy
    cases e
    exact hgl
  have HW0 : Hid (w.alloc (.cells #[.int .u64 xk, .int .u32 xd] 240) = W0) := hW0
  have HBE : Hid (w.heap.size = bx) := hbx
  clear hW0 hB0 k0 h hh hm hbx
  go_enter Tryz.func141, Tryz.ntmps141
  go_wp2_with fail
  rw [HW0.out, HBE.out]
  go_loopw [1] (fun fv wr => ∃ (fr : Nat) (ps' : List Th) (wh' : List Int), fv = .int .i64 fr ∧ Free W0 bx hb wb n g cap m xk xd f fr ps' wh' wr) (fun fv _ => (intOf fv).toNat)
  case atStart => exact ⟨free, ps, wh, rfl, HI0.out⟩
  case round =>
    obtain ⟨fr, ps', wh', rfl, hI⟩ := hrel
    have HI : Hid (Free W0 bx hb wb n g cap m xk xd f fr ps' wh' wr) := hI
    have hfl := hI.hole.flt
    have hl := hI.len
    by_cases h0 : fr = 0
    · subst h0
      clear hI
      go_wp2
      go_ret
      exact ⟨0, ps', wh', rfl, HI.out.hole, HI.out.mem, HI.out.len, HFR.out.trans HI.out.fr, fun h => by omega⟩
    · obtain ⟨ab, hab⟩ : ∃ ab, (fr - 1) / 4 = ab := ⟨_, rfl⟩
      obtain ⟨p, hp⟩ : ∃ p, ps'[ab]? = some p := ⟨ps'[ab]'(by omega), List.getElem?_eq_getElem _⟩
      obtain ⟨x, hx⟩ : ∃ x, ps'[fr]? = some x := ⟨ps'[fr]'(by omega), List.getElem?_eq_getElem _⟩
      obtain ⟨p0, p1, p2, p3⟩ := hI.hole.idr ab p (by omega) hp
      obtain ⟨pk, pi⟩ := p
      obtain ⟨d, hd⟩ : ∃ d : Nat, pi = d := ⟨pi.toNat, by simp only at p0; omega⟩
      subst hd
      obtain ⟨c0, c1, _, _⟩ := hI.mem.cells
      obtain ⟨g', cap', e, hc1, hc2, hgl, hgh, hgw, q0, q1, _, _⟩ := hI.mem.thing hp
      cases e
      obtain ⟨x0, x1⟩ := pair_cells hI.box
      have HMV : Hid (∀ w2, Below wr.heap.size wr w2 → Calls Tryz.prog 144 #[.pointer (some ⟨hb, 0, none⟩), .int .i64 fr, .int .i64 ab] w2 fun e w' => e = .returned (.tuple #[]) ∧ Free W0 bx hb wb n g cap ps'.length xk xd f ab (ps'.set fr (pk, (d : Int))) (wh'.set d ((fr : Int) + 1)) w') := fun w2 hb2 => by
        have hI2 := HI.out.below hb2
        refine (move_calls hI2.mem rfl hm6 fr ab d x pk hx hp (by have := hI2.mem.len; simp only at p1; omega)).mono ?_
        rintro e w' ⟨he, hM, hF⟩
        have hr := hI2.hole.rise (by omega) (by rw [hab]; exact hp)
        rw [hab] at hr
        have hbl := HBX.out
        refine ⟨he, by simpa using hr, hM, by rw [List.length_set], hI2.fr.trans hF, ?_⟩
        rw [hF.block bx (lt_of_get hI2.box) (by omega) (by omega) (fun e => by have := Option.some.inj e; simp only at this; omega)]
        exact hI2.box
      have HK : Hid (∀ w2, Below wr.heap.size wr w2 → w2.cell? ⟨hb, 0, none⟩ = some (.slice (some ⟨g, 0, none⟩) ps'.length cap) ∧ w2.cell? ⟨bx, 0, none⟩ = some (.int .u64 xk) ∧ w2.cell? ⟨bx, 1, none⟩ = some (.int .u32 xd) ∧ w2.cell? ⟨g, ab * 2, none⟩ = some (.int .u64 pk) ∧ w2.cell? ⟨g, ab * 2 + 1, none⟩ = some (.int .u32 (d : Int))) := fun w2 hb2 =>
        ⟨(hb2.cell (p := ⟨hb, 0, none⟩) (lt_of_get HI.out.mem.box)).trans c0, (hb2.cell (p := ⟨bx, 0, none⟩) (lt_of_get HI.out.box)).trans x0, (hb2.cell (p := ⟨bx, 1, none⟩) (lt_of_get HI.out.box)).trans x1, (hb2.cell (p := ⟨g, ab * 2, none⟩) hgl).trans q0, (hb2.cell (p := ⟨g, ab * 2 + 1, none⟩) hgl).trans q1⟩
      have HP : Hid (ps'[ab]? = some (pk, (d : Int))) := hp
      have HAB : Hid ((fr - 1) / 4 = ab) := hab
      have b1 : (0 : Int) ≤ (fr : Int) - 1 := by omega
      have b2 : (fr : Int) ≤ 65536 := by omega
      have b3 : (0 : Int) ≤ (ab : Int) := by omega
      have b4 : (ab : Int) < (ps'.length : Int) := by omega
      have b5 : (ab : Int) ≤ 65536 := by omega
      have b6 : (0 : Int) < (fr : Int) := by omega
      have e1 : ((fr : Int) - 1) / 4 = (ab : Int) := by omega
      have hbxl := HBX.out
      have HLT : Hid (ltT (xk, xd) (pk, (d : Int)) ∨ ¬ ltT (xk, xd) (pk, (d : Int))) := Classical.em _
      have HABL : Hid (ab < fr) := by show _ < _; omega
      clear hI hp hab p0 p1 p2 p3 hx hl
      rcases HLT.out with hlt | hlt
      · have HLS : Hid (∀ wx, Calls Tryz.prog 143 #[.agg #[.int .u64 xk, .int .u32 xd], .agg #[.int .u64 pk, .int .u32 (d : Int)]] wx fun e w' => e = .returned (.bool true) ∧ Below wx.heap.size wx w') := fun wx => by rw [← ltB_true hlt]; exact less_calls _ _ _ _ wx
        clear hlt
        go_wp2_with fail
        go_region_held3 (fun w' => w'.cell? ⟨hb, 0, none⟩ = some (.slice (some ⟨g, 0, none⟩) ps'.length cap) ∧ w'.cell? ⟨bx, 0, none⟩ = some (.int .u64 xk) ∧ w'.cell? ⟨bx, 1, none⟩ = some (.int .u32 xd) ∧ w'.cell? ⟨g, ab * 2, none⟩ = some (.int .u64 pk) ∧ w'.cell? ⟨g, ab * 2 + 1, none⟩ = some (.int .u32 (d : Int))) (go_keep) (first
          | (go_at_call 143; refine (HLS.out _).mono ?_; rintro e w2 ⟨rfl, hb2⟩; have HB2 : Hid (Below wr.heap.size wr w2) := (Below.refl _ wr).drew.trans hb2; obtain ⟨t0, t1, t2, t3, t4⟩ := HK.out w2 HB2.out; clear hb2))
        clear c0 c1 x0 x1 q0 q1 t0 t1 t2 t3 t4
        go_wp2_with fail
        refine (HMV.out _ HB2.out).mono ?_
        rintro e w3 ⟨rfl, hI3⟩
        have HI3 : Hid (Free W0 bx hb wb n g cap ps'.length xk xd f ab (ps'.set fr (pk, (d : Int))) (wh'.set d ((fr : Int) + 1)) w3) := hI3
        clear hI3
        go_wp2
        go_roundw
        case rel => exact ⟨ab, _, _, rfl, HI3.out⟩
        case measure => have := HABL.out; simp [intOf]; omega
      · have HLS : Hid (∀ wx, Calls Tryz.prog 143 #[.agg #[.int .u64 xk, .int .u32 xd], .agg #[.int .u64 pk, .int .u32 (d : Int)]] wx fun e w' => e = .returned (.bool false) ∧ Below wx.heap.size wx w') := fun wx => by rw [← ltB_false hlt]; exact less_calls _ _ _ _ wx
        have HNL : Hid (¬ ltT (xk, xd) (pk, (d : Int))) := hlt
        clear hlt
        go_wp2_with fail
        go_region_held3 (fun w' => w'.cell? ⟨hb, 0, none⟩ = some (.slice (some ⟨g, 0, none⟩) ps'.length cap) ∧ w'.cell? ⟨bx, 0, none⟩ = some (.int .u64 xk) ∧ w'.cell? ⟨bx, 1, none⟩ = some (.int .u32 xd) ∧ w'.cell? ⟨g, ab * 2, none⟩ = some (.int .u64 pk) ∧ w'.cell? ⟨g, ab * 2 + 1, none⟩ = some (.int .u32 (d : Int))) (go_keep) (first
          | (go_at_call 143; refine (HLS.out _).mono ?_; rintro e w2 ⟨rfl, hb2⟩; have HB2 : Hid (Below wr.heap.size wr w2) := (Below.refl _ wr).drew.trans hb2; obtain ⟨t0, t1, t2, t3, t4⟩ := HK.out w2 HB2.out; clear hb2))
        clear c0 c1 x0 x1 q0 q1 t0 t1 t2 t3 t4
        go_wp2
        go_ret
        have hI2 := HI.out.below HB2.out
        exact ⟨fr, ps', wh', rfl, hI2.hole, hI2.mem, hI2.len, HFR.out.trans hI2.fr, fun _ p hp => by rw [HAB.out, HP.out] at hp; cases hp; exact HNL.out⟩
end Go.Proofs.YtodilocmfdeehaaGreatDoor.Hp

namespace Go.Proofs.YtodilocmfdeehaaGreatDoor.Hp
open Go.RowKit

attribute [local go_sem] Oper.semAt_some

theorem below_draws {B : Nat} {a w : World} (h : Below B a w) (q : Nat) : Below B a (w.drewN q) := ⟨h.os, h.tape, h.output, h.size, h.block⟩
/-- what leastChild answers. -/
def LeastOf (ps : List Th) (pl lc : Nat) : Prop := (lc = pl ∧ ps.length ≤ 4 * pl + 1) ∨ (4 * pl < lc ∧ lc ≤ 4 * pl + 4 ∧ lc < ps.length ∧ ∀ j y z, 4 * pl < j → j ≤ 4 * pl + 4 → ps[j]? = some y → ps[lc]? = some z → ¬ ltT y z)
/-- so far. -/
def SoFar (ps : List Th) (pl k lc : Nat) : Prop := (k = 0 ∧ lc = pl) ∨ (0 < k ∧ 4 * pl < lc ∧ lc ≤ 4 * pl + k ∧ ∀ j y z, 4 * pl < j → j ≤ 4 * pl + k → ps[j]? = some y → ps[lc]? = some z → ¬ ltT y z)

set_option maxRecDepth 100000 in
set_option maxHeartbeats 2000000 in
theorem least_some {hb wb n g cap pl : Nat} {ps : List Th} {wh : List Int} {w : World} (h : Mem w hb wb n (.slice (some ⟨g, 0, none⟩) ps.length cap) ps wh) (hm6 : ps.length ≤ 65536) (hpl : pl < ps.length) (hch : 4 * pl + 1 < ps.length) :
    Calls Tryz.prog 145 #[.pointer (some ⟨hb, 0, none⟩), .int .i64 pl] w fun e w' => ∃ lc : Nat, e = .returned (.int .i64 lc) ∧ LeastOf ps pl lc ∧ Below w.heap.size w w' := by
  obtain ⟨B, hB1, hB2, hB3⟩ : ∃ B : Nat, B ≤ 4 ∧ 4 * pl + B ≤ ps.length - 1 ∧ (B = 4 ∨ 4 * pl + B = ps.length - 1) := ⟨min 4 (ps.length - 1 - 4 * pl), by omega, by omega, by omega⟩
  obtain ⟨c0, c1, _, _⟩ := h.cells
  have b0 : (0 : Int) ≤ (pl : Int) := by omega
  have b1 : (pl : Int) ≤ 65536 := by omega
  have HM : Hid (Mem w hb wb n (.slice (some ⟨g, 0, none⟩) ps.length cap) ps wh) := h
  have HEND : Hid (∀ lc, SoFar ps pl B lc → LeastOf ps pl lc) := fun lc hs => by
    rcases hs with ⟨h0, _⟩ | ⟨h0, h1, h2, h3⟩
    · omega
    · refine Or.inr ⟨h1, by omega, by omega, fun j y z hj1 hj2 hy hz => h3 j y z hj1 ?_ hy hz⟩
      have := (List.getElem?_eq_some_iff.1 hy).1
      omega
  have hcapl : (ps.length : Int) ≤ cap := by
    obtain ⟨so, c, e, hc, _⟩ := h.shape
    cases e
    omega
  have hbox := lt_of_get h.box
  clear h
  rcases (show (¬ (4 : Int) > (ps.length : Int) - (4 * (pl : Int) + 1) ∧ B = 4) ∨ ((ps.length : Int) - (4 * (pl : Int) + 1) < 4 ∧ B = ps.length - 1 - 4 * pl) by omega) with ⟨hq, hB⟩ | ⟨hq, hB⟩
  all_goals
    go_enter Tryz.func145, Tryz.ntmps145
    go_wp2_with fail
    go_loopw [6, 20] (fun lv iv wr => ∃ k lc : Nat, k ≤ B ∧ iv = .int .i64 k ∧ lv = .int .i64 lc ∧ SoFar ps pl k lc ∧ Below w.heap.size w wr) (fun _ iv _ => B - (intOf iv).toNat)
    case atStart => exact ⟨0, pl, by omega, rfl, rfl, Or.inl ⟨rfl, rfl⟩, Below.refl _ _⟩
    case round =>
      obtain ⟨k, lc, hk, rfl, rfl, hs, hbw⟩ := hrel
      have HS : Hid (SoFar ps pl k lc) := hs
      have HBW : Hid (Below w.heap.size w wr) := hbw
      by_cases hkB : k < B
      · have a1 : (k : Int) < 4 := by omega
        have a2 : (k : Int) < (ps.length : Int) - (4 * (pl : Int) + 1) := by omega
        by_cases hk0 : k = 0
        · subst hk0
          obtain rfl : lc = pl := by
            rcases hs with ⟨_, h⟩ | ⟨h, _⟩
            · exact h
            · omega
          clear hs hbw
          go_wp2_with fail
          go_quiet (fail)
          go_wp2
          go_roundw
          case rel => exact ⟨1, 4 * lc + 1, by omega, by go_num, by go_num, Or.inr ⟨by omega, by omega, by omega, fun j y z h1 h2 hy hz => by obtain rfl : j = 4 * lc + 1 := by omega
                                                                                                                                              rw [hy] at hz; cases hz; exact ltT_irrefl _⟩, below_draws HBW.out _⟩
          case measure => simp [intOf]; omega
        · obtain ⟨h1, h2, h3⟩ : 4 * pl < lc ∧ lc ≤ 4 * pl + k ∧ ∀ j y z, 4 * pl < j → j ≤ 4 * pl + k → ps[j]? = some y → ps[lc]? = some z → ¬ ltT y z := by
            rcases hs with ⟨h, _⟩ | ⟨_, h⟩
            · omega
            · exact h
          have H3 : Hid (∀ j y z, 4 * pl < j → j ≤ 4 * pl + k → ps[j]? = some y → ps[lc]? = some z → ¬ ltT y z) := h3
          obtain ⟨j, hj⟩ : ∃ j, 4 * pl + 1 + k = j := ⟨_, rfl⟩
          have HJ : Hid (4 * pl + 1 + k = j) := hj
          have hjl : j < ps.length := by omega
          obtain ⟨y, hy⟩ : ∃ y, ps[j]? = some y := ⟨ps[j]'hjl, List.getElem?_eq_getElem _⟩
          obtain ⟨z, hz⟩ : ∃ z, ps[lc]? = some z := ⟨ps[lc]'(by omega), List.getElem?_eq_getElem _⟩
          have hM := HM.out.below hbw
          obtain ⟨yk, yd⟩ := y
          obtain ⟨zk, zd⟩ := z
          obtain ⟨g', cap', e, hc1, hc2, hgl, hgh, hgw, q0, q1, _, _⟩ := hM.thing hy
          cases e
          obtain ⟨g', cap', e, _, _, _, _, _, r0, r1, _, _⟩ := hM.thing hz
          cases e
          obtain ⟨d0, d1, _, _⟩ := hM.cells
          have HK : Hid (∀ w2, Below wr.heap.size wr w2 → w2.cell? ⟨hb, 0, none⟩ = some (.slice (some ⟨g, 0, none⟩) ps.length cap) ∧ w2.cell? ⟨g, j * 2, none⟩ = some (.int .u64 yk) ∧ w2.cell? ⟨g, j * 2 + 1, none⟩ = some (.int .u32 yd) ∧ w2.cell? ⟨g, lc * 2, none⟩ = some (.int .u64 zk) ∧ w2.cell? ⟨g, lc * 2 + 1, none⟩ = some (.int .u32 zd)) := fun w2 hb2 =>
            ⟨(hb2.cell (p := ⟨hb, 0, none⟩) (lt_of_get hM.box)).trans d0, (hb2.cell (p := ⟨g, j * 2, none⟩) hgl).trans q0, (hb2.cell (p := ⟨g, j * 2 + 1, none⟩) hgl).trans q1, (hb2.cell (p := ⟨g, lc * 2, none⟩) hgl).trans r0, (hb2.cell (p := ⟨g, lc * 2 + 1, none⟩) hgl).trans r1⟩
          have HYZ : Hid (ps[j]? = some (yk, yd) ∧ ps[lc]? = some (zk, zd)) := ⟨hy, hz⟩
          have e1 : 4 * (pl : Int) + 1 + (k : Int) = (j : Int) := by omega
          have ew : IntKind.i64.wrap (j : Int) = (j : Int) := by rw [IntKind.wrap_i64]; omega
          have e2 : ((lc : Int) == (pl : Int)) = false := by
            have : (lc : Int) ≠ (pl : Int) := by omega
            simpa using this
          have f0 : (0 : Int) ≤ (j : Int) := by omega
          have f1 : (j : Int) < (ps.length : Int) := by omega
          have f2 : (0 : Int) ≤ (lc : Int) := by omega
          have f3 : (lc : Int) < (ps.length : Int) := by omega
          have HLT : Hid (ltT (yk, yd) (zk, zd) ∨ ¬ ltT (yk, yd) (zk, zd)) := Classical.em _
          have HN : Hid (4 * pl < lc ∧ lc ≤ 4 * pl + k) := ⟨h1, h2⟩
          unfold maxLen at hc2
          clear hs hbw h3 hj hy hz hM hc2
          rcases HLT.out with hlt | hlt
          · have HLS : Hid (∀ wx, Calls Tryz.prog 143 #[.agg #[.int .u64 yk, .int .u32 yd], .agg #[.int .u64 zk, .int .u32 zd]] wx fun e w' => e = .returned (.bool true) ∧ Below wx.heap.size wx w') := fun wx => by rw [← ltB_true hlt]; exact less_calls _ _ _ _ wx
            have HLL : Hid (ltT (yk, yd) (zk, zd)) := hlt
            clear hlt
            go_wp2_with fail
            go_region_held3 (fun w' => w'.cell? ⟨hb, 0, none⟩ = some (.slice (some ⟨g, 0, none⟩) ps.length cap) ∧ w'.cell? ⟨g, j * 2, none⟩ = some (.int .u64 yk) ∧ w'.cell? ⟨g, j * 2 + 1, none⟩ = some (.int .u32 yd) ∧ w'.cell? ⟨g, lc * 2, none⟩ = some (.int .u64 zk) ∧ w'.cell? ⟨g, lc * 2 + 1, none⟩ = some (.int .u32 zd)) (go_keep) (first
              | (go_at_call 143; refine (HLS.out _).mono ?_; rintro e w2 ⟨rfl, hb2⟩; have HB2 : Hid (Below wr.heap.size wr w2) := (Below.refl _ wr).drew.trans hb2; obtain ⟨t0, t1, t2, t3, t4⟩ := HK.out w2 HB2.out; clear hb2))
            clear q0 q1 r0 r1 d0 d1 t0 t1 t2 t3 t4
            go_wp2
            go_roundw
            case rel => exact ⟨k + 1, j, by omega, by go_num, rfl, Or.inr ⟨by omega, by have := HJ.out; omega, by have := HJ.out; omega, fun i y z g1 g2 hy hz => by
                          have hj := HJ.out
                          rw [HYZ.out.1] at hz
                          cases hz
                          by_cases e : i = j
                          · subst e; rw [HYZ.out.1] at hy; cases hy; exact ltT_irrefl _
                          · exact ltT_not_trans (H3.out i y _ g1 (by omega) hy HYZ.out.2) (ltT_asymm HLL.out)⟩, HBW.out.trans (HB2.out.mono HBW.out.size)⟩
            case measure => simp [intOf]; omega
          · have HLS : Hid (∀ wx, Calls Tryz.prog 143 #[.agg #[.int .u64 yk, .int .u32 yd], .agg #[.int .u64 zk, .int .u32 zd]] wx fun e w' => e = .returned (.bool false) ∧ Below wx.heap.size wx w') := fun wx => by rw [← ltB_false hlt]; exact less_calls _ _ _ _ wx
            have HLL : Hid (¬ ltT (yk, yd) (zk, zd)) := hlt
            clear hlt
            go_wp2_with fail
            go_region_held3 (fun w' => w'.cell? ⟨hb, 0, none⟩ = some (.slice (some ⟨g, 0, none⟩) ps.length cap) ∧ w'.cell? ⟨g, j * 2, none⟩ = some (.int .u64 yk) ∧ w'.cell? ⟨g, j * 2 + 1, none⟩ = some (.int .u32 yd) ∧ w'.cell? ⟨g, lc * 2, none⟩ = some (.int .u64 zk) ∧ w'.cell? ⟨g, lc * 2 + 1, none⟩ = some (.int .u32 zd)) (go_keep) (first
              | (go_at_call 143; refine (HLS.out _).mono ?_; rintro e w2 ⟨rfl, hb2⟩; have HB2 : Hid (Below wr.heap.size wr w2) := (Below.refl _ wr).drew.trans hb2; obtain ⟨t0, t1, t2, t3, t4⟩ := HK.out w2 HB2.out; clear hb2))
            clear q0 q1 r0 r1 d0 d1 t0 t1 t2 t3 t4
            go_wp2
            go_roundw
            case rel => exact ⟨k + 1, lc, by omega, by go_num, rfl, Or.inr ⟨by omega, HN.out.1, by have := HN.out.2; omega, fun i y z g1 g2 hy hz => by
                          have hj := HJ.out
                          by_cases e : i = j
                          · subst e; rw [HYZ.out.1] at hy; cases hy; rw [HYZ.out.2] at hz; cases hz; exact HLL.out
                          · exact H3.out i y z g1 (by omega) hy hz⟩, HBW.out.trans (HB2.out.mono HBW.out.size)⟩
            case measure => simp [intOf]; omega
      · obtain rfl : k = B := by omega
        clear hs hbw
        first
          | (have z1 : ¬ (k : Int) < 4 := by omega
             go_wp2
             go_ret
             exact ⟨lc, rfl, HEND.out lc HS.out, HBW.out⟩)
          | (have z1 : ¬ (k : Int) < (ps.length : Int) - (4 * (pl : Int) + 1) := by omega
             go_wp2
             go_ret
             exact ⟨lc, rfl, HEND.out lc HS.out, HBW.out⟩)

set_option maxRecDepth 100000 in
set_option maxHeartbeats 2000000 in
theorem least_none {hb wb n g cap pl : Nat} {ps : List Th} {wh : List Int} {w : World} (h : Mem w hb wb n (.slice (some ⟨g, 0, none⟩) ps.length cap) ps wh) (hm6 : ps.length ≤ 65536) (hpl : pl < ps.length) (hch : ps.length ≤ 4 * pl + 1) :
    Calls Tryz.prog 145 #[.pointer (some ⟨hb, 0, none⟩), .int .i64 pl] w fun e w' => ∃ lc : Nat, e = .returned (.int .i64 lc) ∧ LeastOf ps pl lc ∧ Below w.heap.size w w' := by
  obtain ⟨c0, c1, _, _⟩ := h.cells
  have b0 : (0 : Int) ≤ (pl : Int) := by omega
  have b1 : (pl : Int) ≤ 65536 := by omega
  have hq : (ps.length : Int) - (4 * (pl : Int) + 1) < 4 := by omega
  have hq2 : ¬ (0 : Int) < (ps.length : Int) - (4 * (pl : Int) + 1) := by omega
  clear h
  go_enter Tryz.func145, Tryz.ntmps145
  go_wp2_with fail
  refine wp_loop_rounds 1 ?_
  rw [rounds_succ]
  go_wp2
  go_ret
  exact ⟨pl, rfl, Or.inl ⟨rfl, hch⟩, Below.refl _ _⟩
theorem least_calls {hb wb n g cap pl : Nat} {ps : List Th} {wh : List Int} {w : World} (h : Mem w hb wb n (.slice (some ⟨g, 0, none⟩) ps.length cap) ps wh) (hm6 : ps.length ≤ 65536) (hpl : pl < ps.length) :
    Calls Tryz.prog 145 #[.pointer (some ⟨hb, 0, none⟩), .int .i64 pl] w fun e w' => ∃ lc : Nat, e = .returned (.int .i64 lc) ∧ LeastOf ps pl lc ∧ Below w.heap.size w w' := by
  rcases Nat.lt_or_ge (4 * pl + 1) ps.length with hc | hc
  · exact least_some h hm6 hpl hc
  · exact least_none h hm6 hpl hc
end Go.Proofs.YtodilocmfdeehaaGreatDoor.Hp

namespace Go.Proofs.YtodilocmfdeehaaGreatDoor.Hp
open Go.RowKit

attribute [local go_sem] Oper.semAt_some

set_option maxRecDepth 100000 in
set_option maxHeartbeats 2000000 in
theorem sink_calls {hb wb n g cap m free : Nat} {ps : List Th} {wh : List Int} {w : World} (xk xd : Int) (f : Int → Option Int) (h : Mem w hb wb n (.slice (some ⟨g, 0, none⟩) m cap) ps wh) (hm : ps.length = m) (hm6 : m ≤ 65536) (hh : Hole ps wh free xd f) (hpar : 0 < free → ∀ p, ps[(free - 1) / 4]? = some p → ¬ ltT (xk, xd) p) :
    Calls Tryz.prog 142 #[.pointer (some ⟨hb, 0, none⟩), .int .i64 free, .agg #[.int .u64 xk, .int .u32 xd]] w fun e w' => ∃ (free' : Nat) (ps' : List Th) (wh' : List Int), e = .returned (.int .i64 free') ∧ Hole ps' wh' free' xd f ∧ Mem w' hb wb n (.slice (some ⟨g, 0, none⟩) m cap) ps' wh' ∧ ps'.length = m ∧ Fr hb wb (.slice (some ⟨g, 0, none⟩) m cap) (.slice (some ⟨g, 0, none⟩) m cap) w w' ∧ (0 < free' → ∀ p, ps'[(free' - 1) / 4]? = some p → ¬ ltT (xk, xd) p) ∧ (∀ (i : Nat) (z : Th), 0 < i → (i - 1) / 4 = free' → ps'[i]? = some z → ¬ ltT z (xk, xd)) := by
  obtain ⟨W0, hW0⟩ : ∃ W0, w.alloc (.cells #[.int .u64 xk, .int .u32 xd] 240) = W0 := ⟨_, rfl⟩
  have hB0 : Below w.heap.size w W0 := by rw [← hW0]; exact (Below.refl _ w).alloc (Nat.le_refl _) _
  have k0 : W0.heap[w.heap.size]? = some (.cells #[.int .u64 xk, .int .u32 xd] 240) := by rw [← hW0]; exact heap_new _ _
  obtain ⟨bx, hbx⟩ : ∃ bx, w.heap.size = bx := ⟨_, rfl⟩
  have HFR : Hid (Fr hb wb (.slice (some ⟨g, 0, none⟩) m cap) (.slice (some ⟨g, 0, none⟩) m cap) w W0) := Fr.of_below hB0
  have HI0 : Hid (Free W0 bx hb wb n g cap m xk xd f free ps wh W0 ∧ (0 < free → ∀ p, ps[(free - 1) / 4]? = some p → ¬ ltT (xk, xd) p)) := ⟨⟨hh, h.below hB0, hm, Fr.refl _ _ _ _, by rw [← hbx]; exact k0⟩, hpar⟩
  have HBX : Hid ((hb < bx ∧ wb < bx ∧ g < bx) ∧ bx < W0.heap.size) := by
    refine ⟨?_, by rw [← hbx]; exact lt_of_get k0⟩
    rw [← hbx]
    refine ⟨lt_of_get h.box, lt_of_get h.whr, ?_⟩
    obtain ⟨y, hy⟩ : ∃ y, ps[free]? = some y := ⟨ps[free]'hh.flt, List.getElem?_eq_getElem _⟩
    obtain ⟨g', cap', e, _, _, hgl, _⟩ := h.thing hy
    cases e
    exact hgl
  have HW0 : Hid (w.alloc (.cells #[.int .u64 xk, .int .u32 xd] 240) = W0) := hW0
  have HBE : Hid (w.heap.size = bx) := hbx
  clear hW0 hB0 k0 h hh hm hbx hpar
  go_enter Tryz.func142, Tryz.ntmps142
  go_wp2_with fail
  rw [HW0.out, HBE.out]
  go_loopw [1] (fun fv wr => ∃ (fr : Nat) (ps' : List Th) (wh' : List Int), fv = .int .i64 fr ∧ Free W0 bx hb wb n g cap m xk xd f fr ps' wh' wr ∧ (0 < fr → ∀ p, ps'[(fr - 1) / 4]? = some p → ¬ ltT (xk, xd) p)) (fun fv _ => m - (intOf fv).toNat)
  case atStart => exact ⟨free, ps, wh, rfl, HI0.out⟩
  case round =>
    obtain ⟨fr, ps', wh', rfl, hI, hp⟩ := hrel
    have HI : Hid (Free W0 bx hb wb n g cap m xk xd f fr ps' wh' wr) := hI
    have HP : Hid (0 < fr → ∀ p, ps'[(fr - 1) / 4]? = some p → ¬ ltT (xk, xd) p) := hp
    have hfl := hI.hole.flt
    have hl := hI.len
    have HLC : Hid (Calls Tryz.prog 145 #[.pointer (some ⟨hb, 0, none⟩), .int .i64 fr] wr fun e w' => ∃ lc : Nat, e = .returned (.int .i64 lc) ∧ LeastOf ps' fr lc ∧ Below wr.heap.size wr w') := least_calls (by rw [hl]; exact hI.mem) (by omega) hfl
    clear hI hp
    go_wp2_with fail
    refine HLC.out.mono ?_
    rintro e w1 ⟨lc, rfl, hlo, hb1⟩
    have HI1 : Hid (Free W0 bx hb wb n g cap m xk xd f fr ps' wh' w1) := HI.out.below hb1
    clear hb1
    rcases hlo with ⟨rfl, hnone⟩ | ⟨hlo1, hlo2, hlo3, hlo4⟩
    · go_wp2_with fail
      go_quiet (fail)
      go_wp2
      go_ret
      have hI2 : Free W0 bx hb wb n g cap m xk xd f lc ps' wh' (w1.drewN nq) := HI1.out.below (below_draws (Below.refl _ _) _)
      exact ⟨lc, ps', wh', rfl, hI2.hole, hI2.mem, hI2.len, HFR.out.trans hI2.fr, HP.out, fun i z h1 h2 hz => by have := (List.getElem?_eq_some_iff.1 hz).1; omega⟩
    · obtain ⟨y, hy⟩ : ∃ y, ps'[lc]? = some y := ⟨ps'[lc]'hlo3, List.getElem?_eq_getElem _⟩
      obtain ⟨x, hx⟩ : ∃ x, ps'[fr]? = some x := ⟨ps'[fr]'hfl, List.getElem?_eq_getElem _⟩
      obtain ⟨p0, p1, p2, p3⟩ := HI1.out.hole.idr lc y (by omega) hy
      obtain ⟨yk, yi⟩ := y
      obtain ⟨d, hd⟩ : ∃ d : Nat, yi = d := ⟨yi.toNat, by simp only at p0; omega⟩
      subst hd
      obtain ⟨c0, c1, _, _⟩ := HI1.out.mem.cells
      obtain ⟨g', cap', e, hc1, hc2, hgl, hgh, hgw, q0, q1, _, _⟩ := HI1.out.mem.thing hy
      cases e
      obtain ⟨x0, x1⟩ := pair_cells HI1.out.box
      have HCH : Hid (∀ (i : Nat) (z : Th), 0 < i → (i - 1) / 4 = fr → ps'[i]? = some z → ¬ ltT z (yk, (d : Int))) := fun i z h1 h2 hz => hlo4 i z _ (by omega) (by omega) hz hy
      have HMV : Hid (ltT (yk, (d : Int)) (xk, xd) → ∀ w2, Below w1.heap.size w1 w2 → Calls Tryz.prog 144 #[.pointer (some ⟨hb, 0, none⟩), .int .i64 fr, .int .i64 lc] w2 fun e w' => e = .returned (.tuple #[]) ∧ Free W0 bx hb wb n g cap ps'.length xk xd f lc (ps'.set fr (yk, (d : Int))) (wh'.set d ((fr : Int) + 1)) w' ∧ (0 < lc → ∀ p, (ps'.set fr (yk, (d : Int)))[(lc - 1) / 4]? = some p → ¬ ltT (xk, xd) p)) := fun hlt w2 hb2 => by
        have hI2 := HI1.out.below hb2
        refine (move_calls hI2.mem rfl hm6 fr lc d x yk hx hy (by have := hI2.mem.len; simp only at p1; omega)).mono ?_
        rintro e w' ⟨he, hM, hF⟩
        have hr := hI2.hole.sink (c := lc) (y := (yk, (d : Int))) (by omega) (by omega) hy HCH.out
        have hbl := HBX.out
        refine ⟨he, ⟨by simpa using hr, hM, by rw [List.length_set], hI2.fr.trans hF, ?_⟩, fun _ p hp => ?_⟩
        · rw [hF.block bx (lt_of_get hI2.box) (by omega) (by omega) (fun e => by have := Option.some.inj e; simp only at this; omega)]
          exact hI2.box
        · rw [show (lc - 1) / 4 = fr by omega, set_same _ hfl] at hp
          cases hp
          exact ltT_asymm hlt
      have HK : Hid (∀ w2, Below w1.heap.size w1 w2 → w2.cell? ⟨hb, 0, none⟩ = some (.slice (some ⟨g, 0, none⟩) ps'.length cap) ∧ w2.cell? ⟨bx, 0, none⟩ = some (.int .u64 xk) ∧ w2.cell? ⟨bx, 1, none⟩ = some (.int .u32 xd) ∧ w2.cell? ⟨g, lc * 2, none⟩ = some (.int .u64 yk) ∧ w2.cell? ⟨g, lc * 2 + 1, none⟩ = some (.int .u32 (d : Int))) := fun w2 hb2 =>
        ⟨(hb2.cell (p := ⟨hb, 0, none⟩) (lt_of_get HI1.out.mem.box)).trans c0, (hb2.cell (p := ⟨bx, 0, none⟩) (lt_of_get HI1.out.box)).trans x0, (hb2.cell (p := ⟨bx, 1, none⟩) (lt_of_get HI1.out.box)).trans x1, (hb2.cell (p := ⟨g, lc * 2, none⟩) hgl).trans q0, (hb2.cell (p := ⟨g, lc * 2 + 1, none⟩) hgl).trans q1⟩
      have b1 : (0 : Int) ≤ (lc : Int) := by omega
      have b2 : (lc : Int) < (ps'.length : Int) := by omega
      have b3 : ((lc : Int) == (fr : Int)) = false := by
        have : (lc : Int) ≠ (fr : Int) := by omega
        simpa using this
      have hbxl := HBX.out
      have HLT : Hid (ltT (yk, (d : Int)) (xk, xd) ∨ ¬ ltT (yk, (d : Int)) (xk, xd)) := Classical.em _
      have HABL : Hid (fr < lc ∧ lc < ps'.length) := by exact ⟨by omega, hlo3⟩
      unfold maxLen at hc2
      clear hy p0 p1 p2 p3 hx hl hlo1 hlo2 hlo4 hc2
      rcases HLT.out with hlt | hlt
      · have HLS : Hid (∀ wx, Calls Tryz.prog 143 #[.agg #[.int .u64 yk, .int .u32 (d : Int)], .agg #[.int .u64 xk, .int .u32 xd]] wx fun e w' => e = .returned (.bool true) ∧ Below wx.heap.size wx w') := fun wx => by rw [← ltB_true hlt]; exact less_calls _ _ _ _ wx
        have HLL : Hid (ltT (yk, (d : Int)) (xk, xd)) := hlt
        clear hlt
        go_wp2_with fail
        go_region_held3 (fun w' => w'.cell? ⟨hb, 0, none⟩ = some (.slice (some ⟨g, 0, none⟩) ps'.length cap) ∧ w'.cell? ⟨bx, 0, none⟩ = some (.int .u64 xk) ∧ w'.cell? ⟨bx, 1, none⟩ = some (.int .u32 xd) ∧ w'.cell? ⟨g, lc * 2, none⟩ = some (.int .u64 yk) ∧ w'.cell? ⟨g, lc * 2 + 1, none⟩ = some (.int .u32 (d : Int))) (go_keep) (first
          | (go_at_call 143; refine (HLS.out _).mono ?_; rintro e w2 ⟨rfl, hb2⟩; have HB2 : Hid (Below w1.heap.size w1 w2) := (Below.refl _ w1).drew.trans hb2; obtain ⟨t0, t1, t2, t3, t4⟩ := HK.out w2 HB2.out; clear hb2))
        clear c0 c1 x0 x1 q0 q1 t0 t1 t2 t3 t4
        go_wp2_with fail
        refine (HMV.out HLL.out _ HB2.out).mono ?_
        rintro e w3 ⟨rfl, hI3⟩
        have HI3 : Hid _ := hI3
        clear hI3
        go_wp2
        go_roundw
        case rel => exact ⟨lc, _, _, rfl, HI3.out⟩
        case measure => have := HABL.out; simp [intOf]; omega
      · have HLS : Hid (∀ wx, Calls Tryz.prog 143 #[.agg #[.int .u64 yk, .int .u32 (d : Int)], .agg #[.int .u64 xk, .int .u32 xd]] wx fun e w' => e = .returned (.bool false) ∧ Below wx.heap.size wx w') := fun wx => by rw [← ltB_false hlt]; exact less_calls _ _ _ _ wx
        have HLL : Hid (¬ ltT (yk, (d : Int)) (xk, xd)) := hlt
        clear hlt
        go_wp2_with fail
        go_region_held3 (fun w' => w'.cell? ⟨hb, 0, none⟩ = some (.slice (some ⟨g, 0, none⟩) ps'.length cap) ∧ w'.cell? ⟨bx, 0, none⟩ = some (.int .u64 xk) ∧ w'.cell? ⟨bx, 1, none⟩ = some (.int .u32 xd) ∧ w'.cell? ⟨g, lc * 2, none⟩ = some (.int .u64 yk) ∧ w'.cell? ⟨g, lc * 2 + 1, none⟩ = some (.int .u32 (d : Int))) (go_keep) (first
          | (go_at_call 143; refine (HLS.out _).mono ?_; rintro e w2 ⟨rfl, hb2⟩; have HB2 : Hid (Below w1.heap.size w1 w2) := (Below.refl _ w1).drew.trans hb2; obtain ⟨t0, t1, t2, t3, t4⟩ := HK.out w2 HB2.out; clear hb2))
        clear c0 c1 x0 x1 q0 q1 t0 t1 t2 t3 t4
        go_wp2
        go_ret
        have hI2 := HI1.out.below HB2.out
        exact ⟨fr, ps', wh', rfl, hI2.hole, hI2.mem, hI2.len, HFR.out.trans hI2.fr, HP.out, fun i z h1 h2 hz => ltT_not_trans (HCH.out i z h1 h2 hz) HLL.out⟩
end Go.Proofs.YtodilocmfdeehaaGreatDoor.Hp

namespace Go.Proofs.YtodilocmfdeehaaGreatDoor.Hp
open Go.RowKit

attribute [local go_sem] Oper.semAt_some

/-- the keys by ids, one of them laid anew. -/
def upd (f : Int → Option Int) (d : Int) (v : Option Int) : Int → Option Int := fun e => if e = d then v else f e

set_option maxRecDepth 100000 in
set_option maxHeartbeats 2000000 in
theorem settle_calls {hb wb n g cap m free d : Nat} {ps : List Th} {wh : List Int} {w : World} (xk : Int) (f : Int → Option Int) (h : Mem w hb wb n (.slice (some ⟨g, 0, none⟩) m cap) ps wh) (hm : ps.length = m) (hm6 : m ≤ 65536) (hh : Hole ps wh free (d : Int) f) :
    Calls Tryz.prog 140 #[.pointer (some ⟨hb, 0, none⟩), .int .i64 free, .agg #[.int .u64 xk, .int .u32 (d : Int)]] w fun e w' => e = .returned (.tuple #[]) ∧ ∃ (ps' : List Th) (wh' : List Int), Heap ps' wh' (upd f d (some xk)) ∧ Mem w' hb wb n (.slice (some ⟨g, 0, none⟩) m cap) ps' wh' ∧ ps'.length = m ∧ Fr hb wb (.slice (some ⟨g, 0, none⟩) m cap) (.slice (some ⟨g, 0, none⟩) m cap) w w' := by
  obtain ⟨W0, hW0⟩ : ∃ W0, w.alloc (.cells #[.int .u64 xk, .int .u32 (d : Int)] 240) = W0 := ⟨_, rfl⟩
  have hB0 : Below w.heap.size w W0 := by rw [← hW0]; exact (Below.refl _ w).alloc (Nat.le_refl _) _
  have k0 : W0.heap[w.heap.size]? = some (.cells #[.int .u64 xk, .int .u32 (d : Int)] 240) := by rw [← hW0]; exact heap_new _ _
  obtain ⟨bx, hbx⟩ : ∃ bx, w.heap.size = bx := ⟨_, rfl⟩
  rw [hbx] at k0
  have hbxl : (hb < bx ∧ wb < bx ∧ g < bx) ∧ bx < W0.heap.size := by
    refine ⟨?_, lt_of_get k0⟩
    rw [← hbx]
    refine ⟨lt_of_get h.box, lt_of_get h.whr, ?_⟩
    obtain ⟨y, hy⟩ : ∃ y, ps[free]? = some y := ⟨ps[free]'hh.flt, List.getElem?_eq_getElem _⟩
    obtain ⟨g', cap', e, _, _, hgl, _⟩ := h.thing hy
    cases e
    exact hgl
  have HFR : Hid (Fr hb wb (.slice (some ⟨g, 0, none⟩) m cap) (.slice (some ⟨g, 0, none⟩) m cap) w W0) := Fr.of_below hB0
  have HXK : Hid (∀ w1, Fr hb wb (.slice (some ⟨g, 0, none⟩) m cap) (.slice (some ⟨g, 0, none⟩) m cap) W0 w1 → w1.cell? ⟨bx, 0, none⟩ = some (.int .u64 xk) ∧ w1.cell? ⟨bx, 1, none⟩ = some (.int .u32 (d : Int)) ∧ bx < w1.heap.size) := fun w1 hF => by
    have hk := (hF.block bx hbxl.2 (by omega) (by omega) (fun e => by have := Option.some.inj e; simp only at this; omega)).trans k0
    exact ⟨(pair_cells hk).1, (pair_cells hk).2, lt_of_get hk⟩
  have HRS : Hid (Calls Tryz.prog 141 #[.pointer (some ⟨hb, 0, none⟩), .int .i64 free, .agg #[.int .u64 xk, .int .u32 (d : Int)]] W0 fun e w' => ∃ (free' : Nat) (ps' : List Th) (wh' : List Int), e = .returned (.int .i64 free') ∧ Hole ps' wh' free' (d : Int) f ∧ Mem w' hb wb n (.slice (some ⟨g, 0, none⟩) m cap) ps' wh' ∧ ps'.length = m ∧ Fr hb wb (.slice (some ⟨g, 0, none⟩) m cap) (.slice (some ⟨g, 0, none⟩) m cap) W0 w' ∧ (0 < free' → ∀ p, ps'[(free' - 1) / 4]? = some p → ¬ ltT (xk, (d : Int)) p)) := rise_calls xk (d : Int) f (h.below hB0) hm hm6 hh
  have hdn : (d : Int) < (n : Int) := by have := hh.xin; have := h.len; omega
  have hd0 : (0 : Int) ≤ (d : Int) := by omega
  have hn := h.big
  have HW0 : Hid (w.alloc (.cells #[.int .u64 xk, .int .u32 (d : Int)] 240) = W0) := hW0
  have HBE : Hid (w.heap.size = bx) := hbx
  have n1 : hb ≠ wb := h.hw
  have n2 : wb ≠ hb := Ne.symm n1
  obtain ⟨s0, s1, _⟩ := HXK.out W0 (Fr.refl _ _ _ _)
  have HBL : Hid ((hb < bx ∧ wb < bx ∧ g < bx) ∧ bx < W0.heap.size) := hbxl
  clear hW0 hB0 k0 h hh hm hbx hbxl
  go_enter Tryz.func140, Tryz.ntmps140
  go_wp2_with fail
  rw [HW0.out, HBE.out]
  go_wp2_with fail
  refine HRS.out.mono ?_
  rintro e w1 ⟨f1, ps1, wh1, rfl, hH1, hM1, hl1, hF1, hp1⟩
  have HF1 : Hid (Fr hb wb (.slice (some ⟨g, 0, none⟩) m cap) (.slice (some ⟨g, 0, none⟩) m cap) W0 w1) := hF1
  have HSK : Hid (Calls Tryz.prog 142 #[.pointer (some ⟨hb, 0, none⟩), .int .i64 f1, .agg #[.int .u64 xk, .int .u32 (d : Int)]] w1 fun e w' => ∃ (free' : Nat) (ps' : List Th) (wh' : List Int), e = .returned (.int .i64 free') ∧ Hole ps' wh' free' (d : Int) f ∧ Mem w' hb wb n (.slice (some ⟨g, 0, none⟩) m cap) ps' wh' ∧ ps'.length = m ∧ Fr hb wb (.slice (some ⟨g, 0, none⟩) m cap) (.slice (some ⟨g, 0, none⟩) m cap) w1 w' ∧ (0 < free' → ∀ p, ps'[(free' - 1) / 4]? = some p → ¬ ltT (xk, (d : Int)) p) ∧ (∀ (i : Nat) (z : Th), 0 < i → (i - 1) / 4 = free' → ps'[i]? = some z → ¬ ltT z (xk, (d : Int)))) := sink_calls xk (d : Int) f hM1 hl1 hm6 hH1 hp1
  clear hH1 hM1 hl1 hF1 hp1 s0 s1
  obtain ⟨s0, s1, _⟩ := HXK.out w1 HF1.out
  go_wp2_with fail
  refine HSK.out.mono ?_
  rintro e w2 ⟨fr, ps2, wh2, rfl, hH2, hM2, hl2, hF2, hp2, hc2⟩
  have HF2 : Hid (Fr hb wb (.slice (some ⟨g, 0, none⟩) m cap) (.slice (some ⟨g, 0, none⟩) m cap) W0 w2) := HF1.out.trans hF2
  have hfl := hH2.flt
  obtain ⟨y, hy⟩ : ∃ y, ps2[fr]? = some y := ⟨ps2[fr]'hfl, List.getElem?_eq_getElem _⟩
  obtain ⟨g', cap', e, hc1, hcm, hgl, hgh, hgw, q0, q1, z0, z1⟩ := hM2.thing hy
  cases e
  obtain ⟨c0, c1, _, _⟩ := hM2.cells
  obtain ⟨p, hp⟩ : ∃ p, wh2[d]? = some p := ⟨wh2[d]'(by have := hM2.len; omega), List.getElem?_eq_getElem _⟩
  obtain ⟨r0, r1⟩ := hM2.where_ hp
  have HM2 : Hid (Mem w2 hb wb n (.slice (some ⟨g, 0, none⟩) ps2.length cap) ps2 wh2) := hM2
  have HHP : Hid (Heap (ps2.set fr (xk, (d : Int))) (wh2.set d ((fr : Int) + 1)) (upd f d (some xk))) := by
    have := hH2.fill (x := (xk, (d : Int))) hp2 hc2
    simp only [Int.toNat_natCast] at this
    exact this
  have hbl := HBL.out
  have b1 : (0 : Int) ≤ (fr : Int) := by omega
  have b2 : (fr : Int) < (ps2.length : Int) := by omega
  have n3 : hb ≠ g := Ne.symm hgh
  have n4 : wb ≠ g := Ne.symm hgw
  have n5 : bx ≠ g := by omega
  have n6 : g ≠ bx := by omega
  have n7 : bx ≠ hb := by omega
  have n8 : hb ≠ bx := by omega
  have n9 : bx ≠ wb := by omega
  have n10 : wb ≠ bx := by omega
  have u1 : IntKind.u32.wrap (fr : Int) = fr := by rw [IntKind.wrap_u32]; omega
  have u2 : IntKind.u32.wrap ((fr : Int) + 1) = (fr : Int) + 1 := by rw [IntKind.wrap_u32]; omega
  unfold maxLen at hcm
  clear s0 s1 hH2 hM2 hl2 hF2 hp2 hc2 hy hp
  obtain ⟨s0, s1, hbx2⟩ := HXK.out w2 HF2.out
  go_wp2_with fail
  go_region_held3 (fun w' => w'.cell? ⟨hb, 0, none⟩ = some (.slice (some ⟨g, 0, none⟩) ps2.length cap) ∧ w'.cell? ⟨bx, 0, none⟩ = some (.int .u64 xk) ∧ w'.cell? ⟨bx, 1, none⟩ = some (.int .u32 (d : Int))) (go_keep) (fail)
  go_wp2_with fail
  go_region_held3 (fun w' => w'.cell? ⟨hb, 1, none⟩ = some (.slice (some ⟨wb, 0, none⟩) n n) ∧ w'.cell? ⟨bx, 1, none⟩ = some (.int .u32 (d : Int))) (go_keep) (fail)
  go_wp2
  go_end0
  refine ⟨rfl, _, _, HHP.out, ?_, by rw [List.length_set], HFR.out.trans ?_⟩
  · have := ((HM2.out.put fr (xk, (d : Int))).drew).mark d ((fr : Int) + 1)
    rw [List.length_set] at this
    exact this.drew
  · exact ((((HF2.out.put _).put _).drew).mark _).drew
end Go.Proofs.YtodilocmfdeehaaGreatDoor.Hp

namespace Go.Proofs.YtodilocmfdeehaaGreatDoor.Hp
open Go.RowKit

attribute [local go_sem] Oper.semAt_some

theorem pigeon : ∀ (n : Nat) (l : List Nat), l.Nodup → (∀ x ∈ l, x < n) → l.length ≤ n
  | 0, l, _, h => by
    cases l with
    | nil => simp
    | cons a r => exact absurd (h a (by simp)) (by omega)
  | n + 1, l, hn, h => by
    by_cases hm : n ∈ l
    · have h1 := pigeon n (l.erase n) (hn.erase n) (fun x hx => by
        have hx' := (hn.mem_erase_iff).1 hx
        have := h x hx'.2
        have := hx'.1
        omega)
      rw [List.length_erase_of_mem hm] at h1
      omega
    · have h1 := pigeon n l hn (fun x hx => by
        have := h x hx
        have : x ≠ n := fun e => hm (e ▸ hx)
        omega)
      omega
/-- there are no more things in than ids. -/
theorem Heap.few {ps : List Th} {wh : List Int} {f : Int → Option Int} (h : Heap ps wh f) : ps.length ≤ wh.length := by
  have h1 := pigeon wh.length (ps.map fun t => t.2.toNat) (by
    rw [List.Nodup, List.pairwise_iff_getElem]
    intro i j hi hj hij e
    simp only [List.length_map] at hi hj
    simp only [List.getElem_map] at e
    obtain ⟨a0, a1, a2⟩ := h.idr i ps[i] (List.getElem?_eq_getElem hi)
    obtain ⟨b0, b1, b2⟩ := h.idr j ps[j] (List.getElem?_eq_getElem hj)
    rw [e, b2] at a2
    have := Option.some.inj a2
    omega) (fun x hx => by
    obtain ⟨t, ht, rfl⟩ := List.mem_map.1 hx
    obtain ⟨i, hi, e⟩ := List.getElem_of_mem ht
    obtain ⟨a0, a1, _⟩ := h.idr i ps[i] (List.getElem?_eq_getElem hi)
    rw [e] at a0 a1
    omega)
  simpa using h1

/-- a heap in memory, told by the keys of what is in. -/
def IsHeap (w : World) (hb wb n : Nat) (sv : Value) (f : Int → Option Int) : Prop := ∃ ps wh, Mem w hb wb n sv ps wh ∧ Heap ps wh f
theorem IsHeap.below {w w' : World} {hb wb n : Nat} {sv : Value} {f : Int → Option Int} (h : IsHeap w hb wb n sv f) (hb' : Below w.heap.size w w') : IsHeap w' hb wb n sv f := by
  obtain ⟨ps, wh, h1, h2⟩ := h
  exact ⟨ps, wh, h1.below hb', h2⟩
theorem IsHeap.keep {w w' : World} {hb wb n : Nat} {sv : Value} {f : Int → Option Int} (h : IsHeap w hb wb n sv f) (hk : ∀ k, k < w.heap.size → (k = hb ∨ k = wb ∨ sv.ownBlock = some k) → w'.heap[k]? = w.heap[k]?) : IsHeap w' hb wb n sv f := by
  obtain ⟨ps, wh, h1, h2⟩ := h
  exact ⟨ps, wh, h1.keep hk, h2⟩
theorem IsHeap.lt {w : World} {hb wb n : Nat} {sv : Value} {f : Int → Option Int} (h : IsHeap w hb wb n sv f) : hb < w.heap.size ∧ wb < w.heap.size ∧ ∀ k, sv.ownBlock = some k → k < w.heap.size := by
  obtain ⟨ps, wh, h1, _⟩ := h
  exact ⟨lt_of_get h1.box, lt_of_get h1.whr, fun k hk => (h1.row.lt k hk).2⟩

theorem info39 : (Tryz.prog.info? 62).map (fun i => (i.zero, i.size, i.bytes)) = some (some (.int .u32 0), 1, 4) := by kernel_rfl

set_option maxHeartbeats 1000000 in
theorem new_calls (n : Nat) (hn : n ≤ 65536) (w : World) : Calls Tryz.prog 124 #[.int .i64 n] w fun e w' => e = .returned (.tuple #[.pointer (some ⟨w.heap.size + 1, 0, none⟩), .nilIface]) ∧ IsHeap w' (w.heap.size + 1) w.heap.size n (.slice none 0 0) (fun _ => none) ∧ Below w.heap.size w w' := by
  have hmk := run_make_row' (P := Tryz.prog) 22 62 (.int .u32 0) 4 Tryz.underlying22 info39 rfl .i64 .i64 n (by omega) (by omega)
  have h1 : ¬ (n : Int) < 0 := by omega
  have h2 : ¬ (65536 : Int) < (n : Int) := by omega
  obtain ⟨W, hW⟩ : ∃ W, (w.alloc (.cells (madeCells #[.int .u32 0] n) 62)).alloc (.cells #[.slice none 0 0, .slice (some ⟨w.heap.size, 0, none⟩) n n] 231) = W := ⟨_, rfl⟩
  have HB : Hid (Below w.heap.size w W) := by rw [← hW]; exact ((Below.refl _ w).alloc (Nat.le_refl _) _).alloc (by simp) _
  have HI : Hid (IsHeap W (w.heap.size + 1) w.heap.size n (.slice none 0 0) (fun _ => none)) := by
    refine ⟨[], List.replicate n 0, ⟨?_, World.ownsRow_nil _ _ _ _, ?_, by simp, hn, by omega, (fun e => by cases e), (fun e => by cases e)⟩, Heap.new n⟩
    · have h := heap_new (w.alloc (.cells (madeCells #[.int .u32 0] n) 62)) (.cells #[.slice none 0 0, .slice (some ⟨w.heap.size, 0, none⟩) n n] 231)
      rw [hW] at h
      simpa using h
    · rw [← hW, Below.heap_alloc _ _ _ (by simp), heap_new]
      congr 2
      have h := toList_madeCells_one (.int .u32 0) n
      apply Array.ext'
      rw [h]
      simp
  have HW : Hid ((w.alloc (.cells (madeCells #[.int .u32 0] n) 62)).alloc (.cells #[.slice none 0 0, .slice (some ⟨w.heap.size, 0, none⟩) n n] 231) = W) := hW
  clear hW
  go_enter Tryz.func124, Tryz.ntmps124
  go_wp2
  rw [HW.out]
  go_ret2
  exact ⟨rfl, HI.out, HB.out⟩

section
variable {w : World} {hb wb n : Nat} {sv : Value} {f : Int → Option Int}

set_option maxHeartbeats 1000000 in
/-- Top where nothing is in. -/
theorem top_none (h : IsHeap w hb wb n sv f) (hf : ∀ d : Nat, d < n → f d = none) : Calls Tryz.prog 132 #[.pointer (some ⟨hb, 0, none⟩)] w fun e w' => e = .returned (.tuple #[.int .u32 0, .int .u64 0, .bool false]) ∧ w' = w := by
  obtain ⟨ps, wh, hM, hH⟩ := h
  have hps : ps = [] := by
    cases ps with
    | nil => rfl
    | cons t r =>
      have ht := hH.top (t := t) rfl
      have := hf t.2.toNat (by have := hM.len; omega)
      rw [show ((t.2.toNat : Nat) : Int) = t.2 by omega, ht.1] at this
      cases this
  subst hps
  have HP : Hid (Calls Tryz.prog 138 #[.pointer (some ⟨hb, 0, none⟩)] w fun e w' => e = .returned (.int .i64 (([] : List Th).length : Nat)) ∧ w' = w) := len_calls hM
  clear hM hH
  go_enter Tryz.func132, Tryz.ntmps132
  go_wp2_with fail
  refine HP.out.mono ?_
  rintro e w1 ⟨rfl, hw1⟩
  subst hw1
  go_wp2
  go_ret3
  exact ⟨rfl, rfl⟩

/-- the least thing that is in. -/
def Least (n : Nat) (f : Int → Option Int) (d : Nat) (k : Int) : Prop := d < n ∧ f d = some k ∧ ∀ (e : Nat) j, e < n → f e = some j → ¬ ltT (j, (e : Int)) (k, (d : Int))

set_option maxRecDepth 100000 in
set_option maxHeartbeats 1000000 in
/-- Top where something is in. -/
theorem top_some (h : IsHeap w hb wb n sv f) (d0 : Nat) (hd0 : d0 < n) (hf : f d0 ≠ none) : Calls Tryz.prog 132 #[.pointer (some ⟨hb, 0, none⟩)] w fun e w' => ∃ (d : Nat) (k : Int), e = .returned (.tuple #[.int .u32 d, .int .u64 k, .bool true]) ∧ Least n f d k ∧ Below w.heap.size w w' := by
  obtain ⟨ps, wh, hM, hH⟩ := h
  have hlen := hM.len
  have hbig := hM.big
  cases hps : ps with
  | nil => exact absurd (hH.empty hps d0 (by omega)) hf
  | cons t r =>
    have ht0 : ps[0]? = some t := by rw [hps]; rfl
    have ht := hH.top ht0
    obtain ⟨tk, ti⟩ := t
    obtain ⟨d, hd⟩ : ∃ d : Nat, ti = d := ⟨ti.toNat, by have := ht.2.1.1; simp only at this; omega⟩
    subst hd
    have HL : Hid (Least n f d tk) := ⟨by have := ht.2.1.2; simp only at this; omega, ht.1, fun e j he hj => ht.2.2 e j (by omega) hj⟩
    have hpos : 0 < ps.length := by rw [hps]; simp
    have hfew := hH.few
    have HP : Hid (Calls Tryz.prog 138 #[.pointer (some ⟨hb, 0, none⟩)] w fun e w' => e = .returned (.int .i64 (ps.length : Nat)) ∧ w' = w) := len_calls hM
    obtain ⟨c0, c1, _, _⟩ := hM.cells
    obtain ⟨g, cap, e, hc1, hc2, hgl, _, _, q0, q1, _, _⟩ := hM.thing ht0
    subst e
    simp only [Nat.zero_mul, Nat.zero_add] at q0 q1
    have b2 : (0 : Int) < (ps.length : Int) := by omega
    have b3 : ((ps.length : Int) == 0) = false := by
      have : (ps.length : Int) ≠ 0 := by omega
      simpa using this
    unfold maxLen at hc2
    clear hM hH ht ht0 hps hfew
    go_enter Tryz.func132, Tryz.ntmps132
    go_wp2_with fail
    refine HP.out.mono ?_
    rintro e w1 ⟨rfl, hw1⟩
    subst hw1
    go_wp2_with fail
    go_quiet (fail)
    go_wp2
    go_ret3
    exact ⟨d, tk, rfl, HL.out, below_draws (Below.refl _ _) _⟩
end
end Go.Proofs.YtodilocmfdeehaaGreatDoor.Hp

namespace Go.Proofs.YtodilocmfdeehaaGreatDoor.Hp
open Go.RowKit

attribute [local go_sem] Oper.semAt_some

/-- where one is not in there are fewer things than ids. -/
theorem Heap.fewer {ps : List Th} {wh : List Int} {f : Int → Option Int} (h : Heap ps wh f) {d : Nat} (hd : wh[d]? = some 0) : ps.length < wh.length := by
  have hdl := (List.getElem?_eq_some_iff.1 hd).1
  have h1 := pigeon wh.length (d :: ps.map fun t => t.2.toNat) (by
    refine List.nodup_cons.2 ⟨fun hm => ?_, ?_⟩
    · obtain ⟨t, ht, e⟩ := List.mem_map.1 hm
      obtain ⟨i, hi, e'⟩ := List.getElem_of_mem ht
      obtain ⟨a0, a1, a2⟩ := h.idr i ps[i] (List.getElem?_eq_getElem hi)
      rw [e', e, hd] at a2
      have := Option.some.inj a2
      omega
    · rw [List.Nodup, List.pairwise_iff_getElem]
      intro i j hi hj hij e
      simp only [List.length_map] at hi hj
      simp only [List.getElem_map] at e
      obtain ⟨a0, a1, a2⟩ := h.idr i ps[i] (List.getElem?_eq_getElem hi)
      obtain ⟨b0, b1, b2⟩ := h.idr j ps[j] (List.getElem?_eq_getElem hj)
      rw [e, b2] at a2
      have := Option.some.inj a2
      omega) (fun x hx => by
    rcases List.mem_cons.1 hx with rfl | hx
    · exact hdl
    · obtain ⟨t, ht, rfl⟩ := List.mem_map.1 hx
      obtain ⟨i, hi, e⟩ := List.getElem_of_mem ht
      obtain ⟨a0, a1, _⟩ := h.idr i ps[i] (List.getElem?_eq_getElem hi)
      rw [e] at a0 a1
      omega)
  simp at h1
  omega

section
variable {w : World} {hb wb n : Nat} {sv : Value} {f : Int → Option Int}

set_option maxRecDepth 100000 in
set_option maxHeartbeats 1000000 in
theorem set_in (h : IsHeap w hb wb n sv f) (d : Nat) (hd : d < n) (k k0 : Int) (hf : f d = some k0) : Calls Tryz.prog 137 #[.pointer (some ⟨hb, 0, none⟩), .int .u32 d, .int .u64 k] w fun e w' => e = .returned .nilIface ∧ ∃ sv', IsHeap w' hb wb n sv' (upd f d (some k)) ∧ Fr hb wb sv sv' w w' := by
  obtain ⟨ps, wh, hM, hH⟩ := h
  have hlen := hM.len
  have hbig := hM.big
  obtain ⟨i, y, h0, hy, hyd, hk⟩ : ∃ (i : Nat) (y : Th), wh[d]? = some ((i : Int) + 1) ∧ ps[i]? = some y ∧ y.2 = d ∧ f d = some y.1 := by
    rcases hH.back d (by omega) with ⟨_, h1⟩ | h1
    · rw [hf] at h1; cases h1
    · exact h1
  have hil := (List.getElem?_eq_some_iff.1 hy).1
  have hfew := hH.few
  have HP : Hid (Calls Tryz.prog 139 #[.pointer (some ⟨hb, 0, none⟩), .int .u32 d] w fun e w' => e = .returned (.tuple #[.int .i64 i, .bool true]) ∧ w' = w) := place_in hM d i h0 (by omega)
  obtain ⟨c0, c1, _, _⟩ := hM.cells
  obtain ⟨g, cap, e, hc1, hc2, hgl, _, _, q0, q1, _, _⟩ := hM.thing hy
  subst e
  have hh := hH.hole hy
  rw [hyd] at hh
  have HS : Hid (Calls Tryz.prog 140 #[.pointer (some ⟨hb, 0, none⟩), .int .i64 i, .agg #[.int .u64 k, .int .u32 (d : Int)]] w fun e w' => e = .returned (.tuple #[]) ∧ ∃ (ps' : List Th) (wh' : List Int), Heap ps' wh' (upd f d (some k)) ∧ Mem w' hb wb n (.slice (some ⟨g, 0, none⟩) ps.length cap) ps' wh' ∧ ps'.length = ps.length ∧ Fr hb wb (.slice (some ⟨g, 0, none⟩) ps.length cap) (.slice (some ⟨g, 0, none⟩) ps.length cap) w w') := settle_calls k f hM rfl (by omega) hh
  have b0 : (0 : Int) ≤ (d : Int) := by omega
  have b1 : (d : Int) < (n : Int) := by omega
  unfold maxLen at hc2
  clear hM hH h0 hy hk hf hfew hyd hh q0 q1
  go_enter Tryz.func137, Tryz.ntmps137
  go_wp2_with fail
  refine HP.out.mono ?_
  rintro e w1 ⟨rfl, hw1⟩
  subst hw1
  go_wp2_with fail
  refine HS.out.mono ?_
  rintro e w2 ⟨rfl, hS⟩
  have HS2 : Hid _ := hS
  clear hS
  go_wp2
  go_ret
  obtain ⟨ps', wh', h1, h2, h3, h4⟩ := HS2.out
  exact ⟨rfl, _, ⟨ps', wh', h2, h1⟩, h4⟩

set_option maxRecDepth 100000 in
set_option maxHeartbeats 1000000 in
theorem set_out (h : IsHeap w hb wb n sv f) (d : Nat) (hd : d < n) (k : Int) (hf : f d = none) : Calls Tryz.prog 137 #[.pointer (some ⟨hb, 0, none⟩), .int .u32 d, .int .u64 k] w fun e w' => e = .returned .nilIface ∧ ∃ sv', IsHeap w' hb wb n sv' (upd f d (some k)) ∧ Fr hb wb sv sv' w w' := by
  obtain ⟨i0, hi, hz0, hz1, hz2⟩ : ∃ i, Tryz.prog.info? 240 = some i ∧ i.zero = some (.agg #[.int .u64 0, .int .u32 0]) ∧ i.size = 2 ∧ i.bytes = 16 := by
    have h := Tryz.info75
    cases hi : Tryz.prog.info? 240 with
    | none => rw [hi] at h; cases h
    | some i => rw [hi] at h; simp at h; exact ⟨i, rfl, h.1, h.2.1, h.2.2⟩
  obtain ⟨ps, wh, hM, hH⟩ := h
  have hlen := hM.len
  have hbig := hM.big
  have h0 : wh[d]? = some 0 := by
    rcases hH.back d (by omega) with ⟨h0, _⟩ | ⟨i, y, _, _, _, h1⟩
    · exact h0
    · rw [hf] at h1; cases h1
  have hfew := hH.fewer h0
  have HP : Hid (Calls Tryz.prog 139 #[.pointer (some ⟨hb, 0, none⟩), .int .u32 d] w fun e w' => e = .returned (.tuple #[.int .i64 0, .bool false]) ∧ w' = w) := place_out hM d h0
  obtain ⟨c0, c1, z0, z1⟩ := hM.cells
  obtain ⟨so, sc, hsv, hs1, hs2⟩ := hM.shape
  have HM : Hid (Mem w hb wb n sv ps wh) := hM
  have HH : Hid (Heap ps wh f) := hH
  have H0 : Hid (wh[d]? = some 0) := h0
  have hlh : hb < w.heap.size := lt_of_get hM.box
  have hlw : wb < w.heap.size := lt_of_get hM.whr
  have hsz : ps.length + 1 ≤ 65536 := by omega
  have b0 : (0 : Int) ≤ (d : Int) := by omega
  have b1 : (d : Int) < (n : Int) := by omega
  have HSV : Hid (sv = .slice so ps.length sc) := hsv
  rw [hsv] at c0
  have HG : Hid (∀ (g cap : Nat) (w2 : World), w2.ownsRow 0 240 2 (.slice (some ⟨g, 0, none⟩) (ps.length + 1) cap) (ps.length + 1) (flatT ps ++ [.int .u64 0, .int .u32 0]) → (w.alloc (.cells #[.int .u64 0, .int .u32 0] 240)).grownBy w2 (Value.slice so ps.length sc).ownBlock → ((Value.slice so ps.length sc).ownBlock = some g ∨ g = w.heap.size + 1) →
      (w2.cell? ⟨hb, 0, none⟩ = some (.slice so ps.length sc) ∧ w2.frozen? ⟨hb, 0, none⟩ = false) ∧ hb < w2.heap.size ∧
      Calls Tryz.prog 140 #[.pointer (some ⟨hb, 0, none⟩), .int .i64 (ps.length : Nat), .agg #[.int .u64 k, .int .u32 (d : Int)]] (w2.setCell ⟨hb, 0, none⟩ (.slice (some ⟨g, 0, none⟩) (ps.length + 1) cap)) fun e w' => e = .returned (.tuple #[]) ∧ ∃ sv', IsHeap w' hb wb n sv' (upd f d (some k)) ∧ Fr hb wb sv sv' w w') := fun g cap w2 hown hgrow hat => by
    have hMA := hM.below ((Below.refl _ w).alloc (Nat.le_refl _) (.cells #[.int .u64 0, .int .u32 0] 240))
    have hnb : ∀ k, k < w.heap.size + 1 → (k = hb ∨ k = wb) → w2.heap[k]? = (w.alloc (.cells #[.int .u64 0, .int .u32 0] 240)).heap[k]? := fun k hk hkk => hgrow.block k (by simpa using hk) (fun e => by
      rw [← hsv] at e
      rcases hkk with rfl | rfl
      · exact hM.hp e.symm
      · exact hM.wp e.symm)
    have hk2 : w2.heap[hb]? = some (.cells #[sv, .slice (some ⟨wb, 0, none⟩) n n] 231) := (hnb hb (by omega) (Or.inl rfl)).trans hMA.box
    have hgo : ∀ k, some g = some k → k < w.heap.size → sv.ownBlock = some k := fun k e hk => by
      rcases hat with h | h
      · rw [hsv, h, e]
      · cases e; omega
    have hgh : g ≠ hb := fun e => hM.hp (hgo hb (by rw [e]) hlh)
    have hgw : g ≠ wb := fun e => hM.wp (hgo wb (by rw [e]) hlw)
    have hr : w2.ownsRow 0 240 2 (.slice (some ⟨g, 0, none⟩) (ps ++ [((0 : Int), (0 : Int))]).length cap) (ps ++ [((0 : Int), (0 : Int))]).length (flatT (ps ++ [((0 : Int), (0 : Int))])) := by
      rw [List.length_append, flatT_append]
      exact hown
    have hM2 : Mem (w2.setCell ⟨hb, 0, none⟩ (.slice (some ⟨g, 0, none⟩) (ps ++ [((0 : Int), (0 : Int))]).length cap)) hb wb n (.slice (some ⟨g, 0, none⟩) (ps ++ [((0 : Int), (0 : Int))]).length cap) (ps ++ [((0 : Int), (0 : Int))]) wh := by
      have hk : ∀ k, k ≠ hb → (w2.setCell ⟨hb, 0, none⟩ (.slice (some ⟨g, 0, none⟩) (ps ++ [((0 : Int), (0 : Int))]).length cap)).heap[k]? = w2.heap[k]? := fun k hk => heap_setCell_other _ _ _ _ hk
      refine ⟨?_, ?_, (hk wb (Ne.symm hM.hw)).trans ((hnb wb (by omega) (Or.inr rfl)).trans hMA.whr), hM.len, hM.big, hM.hw, fun e => hgh (Option.some.inj e), fun e => hgw (Option.some.inj e)⟩
      · rw [heap_setCell_same _ hk2]; rfl
      · obtain ⟨r1, r2⟩ := hr
        refine ⟨r1, ?_⟩
        rcases r2 with r2 | ⟨g', cap', cur, e, hb', hh, r⟩
        · exact Or.inl r2
        · refine Or.inr ⟨g', cap', cur, e, hb', (hk g' (fun e' => ?_)).trans hh, r⟩
          cases e
          exact hgh e'
    have hlen1 : (ps ++ [((0 : Int), (0 : Int))]).length = ps.length + 1 := by simp
    rw [hlen1] at hM2
    refine ⟨⟨?_, ?_⟩, lt_of_get hk2, (settle_calls k f hM2 hlen1 (by omega) (hH.room h0 ((0 : Int), (0 : Int)))).mono ?_⟩
    · rw [← hsv]; exact (pair_cells hk2).1
    · exact (cells_at hk2 0).2
    · rintro e w' ⟨he, ps', wh', h1, h2, h3, h4⟩
      have hF0 : Fr hb wb sv (.slice (some ⟨g, 0, none⟩) (ps.length + 1) cap) w (w2.setCell ⟨hb, 0, none⟩ (.slice (some ⟨g, 0, none⟩) (ps.length + 1) cap)) := by
        refine ⟨hgrow.os, hgrow.tape, hgrow.output, by have := hgrow.size; simp at this ⊢; omega, fun j hj g1 g2 g3 => ?_, fun j hj e => hgo j e hj⟩
        rw [heap_setCell_other _ _ _ _ g1]
        exact (hgrow.block j (by simp; omega) (by rw [← hsv]; exact g3)).trans (Below.heap_alloc _ _ _ hj)
      exact ⟨he, _, ⟨ps', wh', h2, h1⟩, hF0.trans h4⟩
  unfold maxLen at hs2
  clear hM hH h0 hf hfew hsv
  go_enter Tryz.func137, Tryz.ntmps137
  go_wp2_with fail
  refine HP.out.mono ?_
  rintro e w1 ⟨rfl, hw1⟩
  subst hw1
  go_wp2_with (at_builtin; refine wpList_append_lies _ (by rfl) _ _ 229 (by rfl) 0 240 i0 (.agg #[.int .u64 0, .int .u32 0]) 2 16 Tryz.underlying229 hi hz0 hz1 hz2 rfl (by decide) (.slice so ps.length sc) ps.length (flatT ps) (by rfl) ?hown ⟨w1.heap.size, 0, none⟩ 1 1 [.int .u64 0, .int .u32 0] (by rfl) rfl ?hnews ?hone (by decide) ?h63 ?hby (Nat.zero_le _) (w1.heap.size + 1) (by simp) ?_; (case hown => (rw [← HSV.out]; exact (HM.out.below ((Below.refl _ _).alloc (Nat.le_refl _) _)).row)); (case hnews => intro j x hx; rcases j with _ | _ | j <;> simp at hx <;> subst hx <;> simp [Addr.add]); (case hone => intro x hx; simp at hx; rcases hx with rfl | rfl <;> rfl); (case h63 => unfold maxLen; omega); (case hby => omega); intro g cap w2 hown hgrow hat hlt; have HGW : Hid _ := HG.out g cap w2 hown hgrow hat; obtain ⟨⟨q0, q1⟩, q2, _⟩ := HGW.out; clear hown hgrow hat hlt)
  refine HGW.out.2.2.mono ?_
  rintro e w3 ⟨rfl, hS⟩
  have HS2 : Hid _ := hS
  clear hS
  go_wp2
  go_ret
  exact ⟨rfl, HS2.out⟩

theorem set_calls (h : IsHeap w hb wb n sv f) (d : Nat) (hd : d < n) (k : Int) : Calls Tryz.prog 137 #[.pointer (some ⟨hb, 0, none⟩), .int .u32 d, .int .u64 k] w fun e w' => e = .returned .nilIface ∧ ∃ sv', IsHeap w' hb wb n sv' (upd f d (some k)) ∧ Fr hb wb sv sv' w w' := by
  cases hf : f d with
  | none => exact set_out h d hd k hf
  | some k0 => exact set_in h d hd k k0 hf

end
end Go.Proofs.YtodilocmfdeehaaGreatDoor.Hp

namespace Go.Proofs.YtodilocmfdeehaaGreatDoor.Hp
open Go.RowKit

attribute [local go_sem] Oper.semAt_some

/-- 'places[:i]'. -/
theorem slice_to (w : World) (g m cap i : Nat) (h : i ≤ cap) (hc : 0 < cap) : (Instr.slice 229 (.slice (some ⟨g, 0, none⟩) m cap) none (some (.int .i64 (i : Int))) none).run Tryz.prog w = .ok (.slice (some ⟨g, 0, none⟩) i cap) w := by
  rw [run_slice_h (ht := Tryz.elem60) (h0 := by omega) (h2 := by omega), Tryz.size60]
  have e2 : (i : Int).toNat = i := by omega
  simp only [Result.andThen_ok, sliced, e2]
  rw [if_neg (by omega)]
  simp [Addr.add]

theorem upd_same {f : Int → Option Int} {d : Int} {v : Option Int} (h : f d = v) : upd f d v = f := by
  funext e
  unfold upd
  split
  · rename_i he; rw [he, h]
  · rfl

section
variable {w : World} {hb wb n : Nat} {sv : Value} {f : Int → Option Int}

set_option maxRecDepth 100000 in
set_option maxHeartbeats 1000000 in
theorem remove_in (h : IsHeap w hb wb n sv f) (d : Nat) (hd : d < n) (k : Int) (hf : f d = some k) : Calls Tryz.prog 133 #[.pointer (some ⟨hb, 0, none⟩), .int .u32 d] w fun e w' => e = .returned (.bool true) ∧ ∃ sv', IsHeap w' hb wb n sv' (upd f d none) ∧ Fr hb wb sv sv' w w' := by
  obtain ⟨ps, wh, hM, hH⟩ := h
  have hlen := hM.len
  have hbig := hM.big
  obtain ⟨i, y, h0, hy, hyd, hk⟩ : ∃ (i : Nat) (y : Th), wh[d]? = some ((i : Int) + 1) ∧ ps[i]? = some y ∧ y.2 = d ∧ f d = some y.1 := by
    rcases hH.back d (by omega) with ⟨_, h1⟩ | h1
    · rw [hf] at h1; cases h1
    · exact h1
  have hil := (List.getElem?_eq_some_iff.1 hy).1
  have hfew := hH.few
  obtain ⟨m, hm⟩ : ∃ m, ps.length = m + 1 := ⟨ps.length - 1, by omega⟩
  obtain ⟨t, ht⟩ : ∃ t, ps[m]? = some t := ⟨ps[m]'(by omega), List.getElem?_eq_getElem _⟩
  obtain ⟨t0, t1, t2⟩ := hH.idr m t ht
  have hout := hH.out hm hy ht
  have htop := hH.there (d := t.2.toNat) (k := m) t2
  obtain ⟨tk, ti⟩ := t
  obtain ⟨td, htd⟩ : ∃ td : Nat, ti = td := ⟨ti.toNat, by simp only at t0; omega⟩
  subst htd
  have HP : Hid (Calls Tryz.prog 139 #[.pointer (some ⟨hb, 0, none⟩), .int .u32 d] w fun e w' => e = .returned (.tuple #[.int .i64 i, .bool true]) ∧ w' = w) := place_in hM d i h0 (by omega)
  obtain ⟨c0, c1, z0, z1⟩ := hM.cells
  obtain ⟨z2, z3⟩ := hM.where_ h0
  obtain ⟨g, cap, e, hc1, hc2, hgl, hgh, hgw, q0, q1, _, _⟩ := hM.thing ht
  subst e
  have hlh : hb < w.heap.size := lt_of_get hM.box
  have hlw : wb < w.heap.size := lt_of_get hM.whr
  have hwd : wh.set y.2.toNat 0 = wh.set d 0 := by rw [hyd]; simp
  rw [hwd, hyd] at hout
  obtain ⟨W3, hW3⟩ : ∃ W3, ((w.setCell ⟨hb, 0, none⟩ (.slice (some ⟨g, 0, none⟩) m cap)).setCell ⟨wb, d, none⟩ (.int .u32 0)).alloc (.cells #[.int .u64 tk, .int .u32 (td : Int)] 240) = W3 := ⟨_, rfl⟩
  have hlt : (ps.take m).length = m := by rw [List.length_take]; omega
  have hM3 : Mem W3 hb wb n (.slice (some ⟨g, 0, none⟩) m cap) (ps.take m) (wh.set d 0) := by
    have hr := hM.short (m := m) (by omega)
    have hB := hM.field hr (fun e => hgh (Option.some.inj e)) (fun e => hgw (Option.some.inj e))
    rw [hlt] at hB
    rw [← hW3]
    exact (hB.mark d 0).below ((Below.refl _ _).alloc (Nat.le_refl _) _)
  have hF3 : Fr hb wb (.slice (some ⟨g, 0, none⟩) ps.length cap) (.slice (some ⟨g, 0, none⟩) m cap) w W3 := by
    rw [← hW3]
    refine ⟨rfl, rfl, rfl, by simp, fun j hj g1 g2 _ => ?_, fun j hj e => e⟩
    rw [Below.heap_alloc _ _ _ (by simp; exact hj), heap_setCell_other _ _ _ _ g2, heap_setCell_other _ _ _ _ g1]
  have hN3 : W3.heap[w.heap.size]? = some (.cells #[.int .u64 tk, .int .u32 (td : Int)] 240) := by
    rw [← hW3]
    have h := heap_new ((w.setCell ⟨hb, 0, none⟩ (.slice (some ⟨g, 0, none⟩) m cap)).setCell ⟨wb, d, none⟩ (.int .u32 0)) (.cells #[.int .u64 tk, .int .u32 (td : Int)] 240)
    simpa using h
  obtain ⟨x0, x1⟩ := pair_cells hN3
  have HEND : Hid (i = m → IsHeap W3 hb wb n (.slice (some ⟨g, 0, none⟩) m cap) (upd f d none)) := fun e => ⟨_, _, hM3, hout.1 e⟩
  have HF3 : Hid (Fr hb wb (.slice (some ⟨g, 0, none⟩) ps.length cap) (.slice (some ⟨g, 0, none⟩) m cap) w W3) := hF3
  have HST : Hid (i ≠ m → Calls Tryz.prog 140 #[.pointer (some ⟨hb, 0, none⟩), .int .i64 i, .agg #[.int .u64 tk, .int .u32 (td : Int)]] W3 fun e w' => e = .returned (.tuple #[]) ∧ IsHeap w' hb wb n (.slice (some ⟨g, 0, none⟩) m cap) (upd f d none) ∧ Fr hb wb (.slice (some ⟨g, 0, none⟩) ps.length cap) (.slice (some ⟨g, 0, none⟩) m cap) w w') := fun hne => by
    refine (settle_calls (d := td) tk (upd f d none) hM3 hlt (by omega) (hout.2 hne)).mono ?_
    rintro e w' ⟨he, ps', wh', h1, h2, h3, h4⟩
    have hne2 : (td : Int) ≠ (d : Int) := fun e => by
      have e' : td = d := by omega
      subst e'
      simp only [Int.toNat_natCast] at t2
      rw [h0] at t2
      have := Option.some.inj t2
      omega
    rw [upd_same] at h1
    · exact ⟨he, ⟨ps', wh', h2, h1⟩, hF3.trans h4⟩
    · unfold upd
      rw [if_neg hne2]
      obtain ⟨y', hy', e', hf'⟩ := htop
      rw [ht] at hy'
      cases hy'
      simpa using hf'
  have HW3 : Hid (((w.setCell ⟨hb, 0, none⟩ (.slice (some ⟨g, 0, none⟩) m cap)).setCell ⟨wb, d, none⟩ (.int .u32 0)).alloc (.cells #[.int .u64 tk, .int .u32 (td : Int)] 240) = W3) := hW3
  have hsl := fun wx => slice_to wx g (m + 1) cap m (by omega) (by omega)
  rw [hm] at c0
  have b0 : (0 : Int) ≤ (d : Int) := by omega
  have b1 : (d : Int) < (n : Int) := by omega
  have b2 : (0 : Int) ≤ (m : Int) := by omega
  have b3 : (m : Int) < (m : Int) + 1 := by omega
  have b4 : (m : Int) ≤ 65536 := by omega
  have e1 : ((m + 1 : Nat) : Int) - 1 = (m : Int) := by omega
  have e2 : (m : Int) + 1 - 1 = (m : Int) := by omega
  have n1 : hb ≠ wb := hM.hw
  have n2 : wb ≠ hb := Ne.symm n1
  have n3 : hb ≠ w.heap.size := by omega
  have n4 : wb ≠ w.heap.size := by omega
  have n5 : w.heap.size ≠ hb := by omega
  have n6 : w.heap.size ≠ wb := by omega
  have him : i ≤ m := by omega
  unfold maxLen at hc2
  clear hM hH h0 hy hk hf hfew hyd hout htop t0 t1 t2 ht hM3 hF3 hN3 hW3 hwd hlt hm hil
  by_cases hi : i = m
  · have b5 : ¬ (i : Int) < (m : Int) := by omega
    have HI : Hid (i = m) := hi
    clear hi
    go_enter Tryz.func133, Tryz.ntmps133
    go_wp2_with fail
    refine HP.out.mono ?_
    rintro e w1 ⟨rfl, hw1⟩
    subst hw1
    go_wp2
    rw [HW3.out]
    go_ret
    exact ⟨rfl, _, HEND.out HI.out, HF3.out⟩
  · have b5 : (i : Int) < (m : Int) := by omega
    have HI : Hid (i ≠ m) := hi
    clear hi
    go_enter Tryz.func133, Tryz.ntmps133
    go_wp2_with fail
    refine HP.out.mono ?_
    rintro e w1 ⟨rfl, hw1⟩
    subst hw1
    go_wp2_with fail
    rw [HW3.out]
    refine (HST.out HI.out).mono ?_
    rintro e w2 ⟨rfl, hS⟩
    have HS2 : Hid (IsHeap w2 hb wb n (.slice (some ⟨g, 0, none⟩) m cap) (upd f d none) ∧ Fr hb wb (.slice (some ⟨g, 0, none⟩) ps.length cap) (.slice (some ⟨g, 0, none⟩) m cap) w1 w2) := hS
    clear hS
    go_wp2
    go_ret
    exact ⟨rfl, _, HS2.out⟩

set_option maxHeartbeats 1000000 in
theorem pop_none (h : IsHeap w hb wb n sv f) (hf : ∀ d : Nat, d < n → f d = none) : Calls Tryz.prog 126 #[.pointer (some ⟨hb, 0, none⟩)] w fun e w' => e = .returned (.tuple #[.int .u32 0, .int .u64 0, .bool false]) ∧ w' = w := by
  have HT : Hid (type_of% (top_none h hf)) := top_none h hf
  clear h hf
  go_enter Tryz.func126, Tryz.ntmps126
  go_wp2_with fail
  refine HT.out.mono ?_
  rintro e w1 ⟨rfl, hw1⟩
  subst hw1
  go_wp2
  go_ret3
  exact ⟨rfl, rfl⟩

set_option maxHeartbeats 1000000 in
theorem pop_some (h : IsHeap w hb wb n sv f) (d0 : Nat) (hd0 : d0 < n) (hf : f d0 ≠ none) : Calls Tryz.prog 126 #[.pointer (some ⟨hb, 0, none⟩)] w fun e w' => ∃ (d : Nat) (k : Int), e = .returned (.tuple #[.int .u32 d, .int .u64 k, .bool true]) ∧ Least n f d k ∧ ∃ sv', IsHeap w' hb wb n sv' (upd f d none) ∧ Fr hb wb sv sv' w w' := by
  have HT : Hid (type_of% (top_some h d0 hd0 hf)) := top_some h d0 hd0 hf
  have HI : Hid (IsHeap w hb wb n sv f) := h
  clear h hf
  go_enter Tryz.func126, Tryz.ntmps126
  go_wp2_with fail
  refine HT.out.mono ?_
  rintro e w1 ⟨d, k, rfl, hL, hb1⟩
  have HL : Hid (Least n f d k) := hL
  have HB : Hid (Below w.heap.size w w1) := hb1
  have HR : Hid (type_of% (remove_in (HI.out.below hb1) d hL.1 k hL.2.1)) := remove_in (HI.out.below hb1) d hL.1 k hL.2.1
  clear hL hb1
  go_wp2_with fail
  refine HR.out.mono ?_
  rintro e w2 ⟨rfl, hS⟩
  have HS2 : Hid (∃ sv', IsHeap w2 hb wb n sv' (upd f d none) ∧ Fr hb wb sv sv' w1 w2) := hS
  clear hS
  go_wp2
  go_ret3
  obtain ⟨sv', h1, h2⟩ := HS2.out
  exact ⟨d, k, rfl, HL.out, sv', h1, (Fr.of_below HB.out).trans h2⟩

end
end Go.Proofs.YtodilocmfdeehaaGreatDoor.Hp

namespace Go.Proofs.YtodilocmfdeehaaGreatDoor.St
open Go.RowKit

theorem heap_new (w : World) (o : Obj) : (w.alloc o).heap[w.heap.size]? = some o := by show (w.heap.push _)[w.heap.size]? = _; simp
theorem lt_of_get {w : World} {k : Nat} {o : Obj} (h : w.heap[k]? = some o) : k < w.heap.size := by
  rcases Nat.lt_or_ge k w.heap.size with h' | h'
  · exact h'
  · rw [Array.getElem?_eq_none h'] at h; cases h
theorem heap_setCell_same {w : World} {b o : Nat} {c : Array Value} {t : TypeId} (v : Value) (h : w.heap[b]? = some (.cells c t)) : (w.setCell ⟨b, o, none⟩ v).heap[b]? = some (.cells (c.setIfInBounds o v) t) := by
  simp only [World.setCell, Array.getElem?_modify]
  rw [if_pos trivial, h]
  rfl
theorem cells_at {w : World} {b : Nat} {c : Array Value} {t : TypeId} (h : w.heap[b]? = some (.cells c t)) (o : Nat) : w.cell? ⟨b, o, none⟩ = c[o]? ∧ w.frozen? ⟨b, o, none⟩ = false := by
  simp [World.cell?, World.frozen?, h]
/-- a place: its number, its age, whether it was set. -/
abbrev Pl := Int × Int × Bool
/-- the cells of places. -/
def flatP (l : List Pl) : List Value := l.flatMap fun a => [.int .u64 a.1, .int .u32 a.2.1, .bool a.2.2]
theorem flatP_cons (b : Pl) (r : List Pl) : flatP (b :: r) = .int .u64 b.1 :: .int .u32 b.2.1 :: .bool b.2.2 :: flatP r := by simp [flatP]
theorem flatP_len (l : List Pl) : (flatP l).length = l.length * 3 := by
  induction l with
  | nil => rfl
  | cons a r ih => rw [flatP_cons]; simp only [List.length_cons]; rw [ih]; omega
theorem flatP_get : ∀ (l : List Pl) (i : Nat) (a : Pl), l[i]? = some a → (flatP l)[i * 3]? = some (.int .u64 a.1) ∧ (flatP l)[i * 3 + 1]? = some (.int .u32 a.2.1) ∧ (flatP l)[i * 3 + 2]? = some (.bool a.2.2)
  | [], i, a, h => by simp at h
  | b :: r, 0, a, h => by
    simp at h
    subst h
    simp [flatP_cons]
  | b :: r, i + 1, a, h => by
    obtain ⟨h0, h1, h2⟩ := flatP_get r i a (by simpa using h)
    rw [flatP_cons, show (i + 1) * 3 = i * 3 + 1 + 1 + 1 by omega]
    refine ⟨by simpa using h0, ?_, ?_⟩
    · rw [show i * 3 + 1 + 1 + 1 + 1 = i * 3 + 1 + 1 + 1 + 1 by omega, List.getElem?_cons_succ, List.getElem?_cons_succ, List.getElem?_cons_succ]; exact h1
    · rw [show i * 3 + 1 + 1 + 1 + 2 = i * 3 + 2 + 1 + 1 + 1 by omega, List.getElem?_cons_succ, List.getElem?_cons_succ, List.getElem?_cons_succ]; exact h2
theorem flatP_set (l : List Pl) (i : Nat) (a : Pl) : flatP (l.set i a) = (((flatP l).set (i * 3) (.int .u64 a.1)).set (i * 3 + 1) (.int .u32 a.2.1)).set (i * 3 + 2) (.bool a.2.2) := by
  induction l generalizing i with
  | nil => simp [flatP]
  | cons b r ih =>
    cases i with
    | zero => simp [flatP_cons]
    | succ i =>
      rw [List.set_cons_succ, flatP_cons, flatP_cons, ih i, show (i + 1) * 3 = i * 3 + 1 + 1 + 1 by omega, show i * 3 + 1 + 1 + 1 + 2 = i * 3 + 2 + 1 + 1 + 1 by omega]
      simp only [List.set_cons_succ]

/-- what a place holds in an age. -/
def seenP (age : Int) (p : Pl) : Option Int := if p.2.2 = true ∧ p.2.1 = age then some p.1 else none
/-- how many hold one. -/
def cnt : List (Option Int) → Nat
  | [] => 0
  | b :: r => (if b.isSome then 1 else 0) + cnt r
theorem cnt_le : ∀ bs : List (Option Int), cnt bs ≤ bs.length
  | [] => Nat.le_refl _
  | b :: r => by have := cnt_le r; unfold cnt; rw [List.length_cons]; split <;> omega
theorem cnt_add : ∀ (bs : List (Option Int)) (d : Nat) (x : Int), bs[d]? = some none → cnt (bs.set d (some x)) = cnt bs + 1
  | [], d, x, h => by simp at h
  | b :: r, 0, x, h => by simp at h; subst h; simp [cnt]; omega
  | b :: r, d + 1, x, h => by have := cnt_add r d x (by simpa using h); rw [List.set_cons_succ]; unfold cnt; rw [this]; omega
theorem cnt_same : ∀ (bs : List (Option Int)) (d : Nat) (x y : Int), bs[d]? = some (some y) → cnt (bs.set d (some x)) = cnt bs
  | [], d, x, y, h => by simp at h
  | b :: r, 0, x, y, h => by simp at h; subst h; simp [cnt]
  | b :: r, d + 1, x, y, h => by have := cnt_same r d x y (by simpa using h); rw [List.set_cons_succ]; unfold cnt; rw [this]
theorem cnt_none (n : Nat) : cnt (List.replicate n none) = 0 := by
  induction n with
  | zero => rfl
  | succ n ih => rw [List.replicate_succ]; unfold cnt; rw [ih]; rfl
/-- a stamp's memory. -/
structure Mem (w : World) (sb pb n : Nat) (age : Int) (held : Nat) (ps : List Pl) : Prop where
  box : w.heap[sb]? = some (.cells #[.slice (some ⟨pb, 0, none⟩) n n, .int .u32 age, .int .i64 held] 228)
  row : w.heap[pb]? = some (.cells (flatP ps).toArray 236)
  len : ps.length = n
  big : n ≤ 65536
  ne : sb ≠ pb
/-- a stamp that holds these. -/
def IsStamp (w : World) (sb pb n : Nat) (vs : List (Option Int)) : Prop := ∃ (age : Int) (held : Nat) (ps : List Pl), Mem w sb pb n age held ps ∧ 0 ≤ age ∧ age ≤ 4294967295 ∧ vs = ps.map (seenP age) ∧ held = cnt vs ∧ ∀ p ∈ ps, p.2.2 = true → p.2.1 ≤ age

/-- what a call on a stamp leaves alone: all but the stamp's own blocks. -/
structure Fr (sb pb : Nat) (w w' : World) : Prop where
  os : w'.os = w.os
  tape : w'.tape = w.tape
  output : w'.output = w.output
  size : w.heap.size ≤ w'.heap.size
  block : ∀ k, k < w.heap.size → k ≠ sb → k ≠ pb → w'.heap[k]? = w.heap[k]?
theorem Fr.of_below {sb pb : Nat} {w w' : World} (h : Below w.heap.size w w') : Fr sb pb w w' := ⟨h.os, h.tape, h.output, h.size, fun k hk _ _ => h.block k hk⟩
theorem Fr.drew {sb pb : Nat} {w w' : World} (h : Fr sb pb w w') : Fr sb pb w w'.drew := ⟨h.os, h.tape, h.output, h.size, h.block⟩
theorem Fr.box {sb pb : Nat} {w w' : World} (h : Fr sb pb w w') (o : Nat) (v : Value) : Fr sb pb w (w'.setCell ⟨sb, o, none⟩ v) := ⟨h.os, h.tape, h.output, by simpa using h.size, fun k hk h1 h2 => (heap_setCell_other _ _ _ _ h1).trans (h.block k hk h1 h2)⟩
theorem Fr.row {sb pb : Nat} {w w' : World} (h : Fr sb pb w w') (o : Nat) (v : Value) : Fr sb pb w (w'.setCell ⟨pb, o, none⟩ v) := ⟨h.os, h.tape, h.output, by simpa using h.size, fun k hk h1 h2 => (heap_setCell_other _ _ _ _ h2).trans (h.block k hk h1 h2)⟩

theorem Mem.keep {w w' : World} {sb pb n held : Nat} {age : Int} {ps : List Pl} (h : Mem w sb pb n age held ps) (h1 : w'.heap[sb]? = w.heap[sb]?) (h2 : w'.heap[pb]? = w.heap[pb]?) : Mem w' sb pb n age held ps := ⟨h1.trans h.box, h2.trans h.row, h.len, h.big, h.ne⟩
theorem Mem.below {w w' : World} {sb pb n held : Nat} {age : Int} {ps : List Pl} (h : Mem w sb pb n age held ps) (hb : Below w.heap.size w w') : Mem w' sb pb n age held ps := h.keep (hb.block _ (lt_of_get h.box)) (hb.block _ (lt_of_get h.row))
theorem IsStamp.keep {w w' : World} {sb pb n : Nat} {vs : List (Option Int)} (h : IsStamp w sb pb n vs) (hk : ∀ k, k < w.heap.size → (k = sb ∨ k = pb) → w'.heap[k]? = w.heap[k]?) : IsStamp w' sb pb n vs := by
  obtain ⟨age, held, ps, hM, r⟩ := h
  exact ⟨age, held, ps, hM.keep (hk _ (lt_of_get hM.box) (Or.inl rfl)) (hk _ (lt_of_get hM.row) (Or.inr rfl)), r⟩
theorem IsStamp.below {w w' : World} {sb pb n : Nat} {vs : List (Option Int)} (h : IsStamp w sb pb n vs) (hb : Below w.heap.size w w') : IsStamp w' sb pb n vs := h.keep fun k hk _ => hb.block k hk
theorem IsStamp.lt {w : World} {sb pb n : Nat} {vs : List (Option Int)} (h : IsStamp w sb pb n vs) : sb < w.heap.size ∧ pb < w.heap.size ∧ sb ≠ pb ∧ vs.length = n ∧ n ≤ 65536 := by
  obtain ⟨age, held, ps, hM, _, _, rfl, _⟩ := h
  exact ⟨lt_of_get hM.box, lt_of_get hM.row, hM.ne, by rw [List.length_map]; exact hM.len, hM.big⟩

section
variable {w : World} {sb pb n held : Nat} {age : Int} {ps : List Pl}
theorem Mem.cells (h : Mem w sb pb n age held ps) : w.cell? ⟨sb, 0, none⟩ = some (.slice (some ⟨pb, 0, none⟩) n n) ∧ w.cell? ⟨sb, 1, none⟩ = some (.int .u32 age) ∧ w.cell? ⟨sb, 2, none⟩ = some (.int .i64 held) ∧ w.frozen? ⟨sb, 0, none⟩ = false ∧ w.frozen? ⟨sb, 1, none⟩ = false ∧ w.frozen? ⟨sb, 2, none⟩ = false := by
  simp [World.cell?, World.frozen?, h.box]
theorem Mem.place (h : Mem w sb pb n age held ps) {i : Nat} {p : Pl} (hi : ps[i]? = some p) : w.cell? ⟨pb, i * 3, none⟩ = some (.int .u64 p.1) ∧ w.cell? ⟨pb, i * 3 + 1, none⟩ = some (.int .u32 p.2.1) ∧ w.cell? ⟨pb, i * 3 + 2, none⟩ = some (.bool p.2.2) ∧
    w.frozen? ⟨pb, i * 3, none⟩ = false ∧ w.frozen? ⟨pb, i * 3 + 1, none⟩ = false ∧ w.frozen? ⟨pb, i * 3 + 2, none⟩ = false := by
  obtain ⟨g0, g1, g2⟩ := flatP_get ps i p hi
  exact ⟨(cells_at h.row _).1.trans (by simpa using g0), (cells_at h.row _).1.trans (by simpa using g1), (cells_at h.row _).1.trans (by simpa using g2), (cells_at h.row _).2, (cells_at h.row _).2, (cells_at h.row _).2⟩
/-- a place is laid. -/
theorem Mem.put (h : Mem w sb pb n age held ps) (i : Nat) (p : Pl) :
    Mem (((w.setCell ⟨pb, i * 3, none⟩ (.int .u64 p.1)).setCell ⟨pb, i * 3 + 1, none⟩ (.int .u32 p.2.1)).setCell ⟨pb, i * 3 + 2, none⟩ (.bool p.2.2)) sb pb n age held (ps.set i p) := by
  refine ⟨?_, ?_, by rw [List.length_set]; exact h.len, h.big, h.ne⟩
  · rw [heap_setCell_other _ _ _ _ h.ne, heap_setCell_other _ _ _ _ h.ne, heap_setCell_other _ _ _ _ h.ne]; exact h.box
  · rw [heap_setCell_same _ (heap_setCell_same _ (heap_setCell_same _ h.row))]
    congr 2
    rw [List.setIfInBounds_toArray, List.setIfInBounds_toArray, List.setIfInBounds_toArray, flatP_set]
theorem Mem.setHeld (h : Mem w sb pb n age held ps) (m : Nat) : Mem (w.setCell ⟨sb, 2, none⟩ (.int .i64 (m : Int))) sb pb n age m ps := by
  refine ⟨?_, (heap_setCell_other _ _ _ _ (Ne.symm h.ne)).trans h.row, h.len, h.big, h.ne⟩
  rw [heap_setCell_same _ h.box]; rfl
end
end Go.Proofs.YtodilocmfdeehaaGreatDoor.St

namespace Go.Proofs.YtodilocmfdeehaaGreatDoor.St
open Go.RowKit

attribute [local go_sem] Oper.semAt_some

theorem below_draws {B : Nat} {a w : World} (h : Below B a w) (q : Nat) : Below B a (w.drewN q) := ⟨h.os, h.tape, h.output, h.size, h.block⟩
section
variable {w : World} {sb pb n held : Nat} {age : Int} {ps : List Pl}

set_option maxHeartbeats 1000000 in
theorem isPlace_in (h : Mem w sb pb n age held ps) (i : Nat) (hi : i < n) : Calls Tryz.prog 134 #[.pointer (some ⟨sb, 0, none⟩), .int .i64 i] w fun e w' => e = .returned (.bool true) ∧ w' = w := by
  obtain ⟨c0, c1, c2, _, _, _⟩ := h.cells
  have b0 : (0 : Int) ≤ (i : Int) := by omega
  have b1 : (i : Int) < (n : Int) := by omega
  clear h
  go_enter Tryz.func134, Tryz.ntmps134
  go_wp2
  go_ret
  exact ⟨rfl, rfl⟩

set_option maxHeartbeats 1000000 in
theorem holds_calls (h : Mem w sb pb n age held ps) {i : Nat} {p : Pl} (hi : ps[i]? = some p) : Calls Tryz.prog 135 #[.pointer (some ⟨sb, 0, none⟩), .int .i64 i] w fun e w' => e = .returned (.bool (seenP age p).isSome) ∧ Below w.heap.size w w' := by
  obtain ⟨c0, c1, c2, _, _, _⟩ := h.cells
  obtain ⟨p0, p1, p2, _, _, _⟩ := h.place hi
  have hlt := (List.getElem?_eq_some_iff.1 hi).1
  have b0 : (0 : Int) ≤ (i : Int) := by omega
  have b1 : (i : Int) < (n : Int) := by have := h.len; omega
  obtain ⟨x, a, b⟩ := p
  clear h hlt hi
  cases b with
  | false =>
    have e0 : (seenP age (x, a, false)).isSome = false := by simp [seenP]
    rw [e0]
    go_enter Tryz.func135, Tryz.ntmps135
    go_wp2_with fail
    go_quiet (fail)
    go_wp2
    go_ret
    exact ⟨rfl, below_draws (Below.refl _ _) _⟩
  | true =>
    by_cases ha : a = age
    · subst ha
      have e0 : (seenP a (x, a, true)).isSome = true := by simp [seenP]
      rw [e0]
      go_enter Tryz.func135, Tryz.ntmps135
      go_wp2_with fail
      go_quiet (fail)
      go_wp2
      go_ret
      exact ⟨rfl, below_draws (Below.refl _ _) _⟩
    · have e0 : (seenP age (x, a, true)).isSome = false := by simp [seenP, ha]
      rw [e0]
      have e1 : (a == age) = false := by simpa using ha
      go_enter Tryz.func135, Tryz.ntmps135
      go_wp2_with fail
      go_quiet (fail)
      go_wp2
      go_ret
      exact ⟨rfl, below_draws (Below.refl _ _) _⟩
end

section
variable {w : World} {sb pb n : Nat} {vs : List (Option Int)}
/-- what Get answers of a place. -/
def gotV : Option Int → Value
  | some x => .tuple #[.int .u64 x, .bool true]
  | none => .tuple #[.int .u64 0, .bool false]

set_option maxHeartbeats 1000000 in
theorem get_in (h : IsStamp w sb pb n vs) (i : Nat) (o : Option Int) (hi : vs[i]? = some o) : Calls Tryz.prog 127 #[.pointer (some ⟨sb, 0, none⟩), .int .i64 i] w fun e w' => e = .returned (gotV o) ∧ Below w.heap.size w w' := by
  obtain ⟨age, held, ps, hM, _, _, rfl, _, _⟩ := h
  rw [List.getElem?_map] at hi
  obtain ⟨p, hp, rfl⟩ := Option.map_eq_some_iff.1 hi
  have hlt : i < n := by have := (List.getElem?_eq_some_iff.1 hp).1; have := hM.len; omega
  have HP : Hid (type_of% (isPlace_in hM i hlt)) := isPlace_in hM i hlt
  have HH : Hid (type_of% (holds_calls hM hp)) := holds_calls hM hp
  have HK : Hid (∀ wx, Below w.heap.size w wx → wx.cell? ⟨sb, 0, none⟩ = some (.slice (some ⟨pb, 0, none⟩) n n) ∧ wx.cell? ⟨sb, 1, none⟩ = some (.int .u32 age) ∧ wx.cell? ⟨sb, 2, none⟩ = some (.int .i64 held) ∧ wx.cell? ⟨pb, i * 3, none⟩ = some (.int .u64 p.1) ∧ wx.cell? ⟨pb, i * 3 + 1, none⟩ = some (.int .u32 p.2.1) ∧ wx.cell? ⟨pb, i * 3 + 2, none⟩ = some (.bool p.2.2)) := fun wx hb => by
    have hX := hM.below hb
    obtain ⟨c0, c1, c2, _, _, _⟩ := hX.cells
    obtain ⟨p0, p1, p2, _, _, _⟩ := hX.place hp
    exact ⟨c0, c1, c2, p0, p1, p2⟩
  have b0 : (0 : Int) ≤ (i : Int) := by omega
  have b1 : (i : Int) < (n : Int) := by omega
  clear hM hi hp
  by_cases hs : p.2.2 = true ∧ p.2.1 = age
  · have e0 : seenP age p = some p.1 := by simp [seenP, hs]
    rw [e0] at HH ⊢
    unfold gotV
    clear e0 hs
    go_enter Tryz.func127, Tryz.ntmps127
    go_wp2_with fail
    refine HP.out.mono ?_
    rintro e w1 ⟨rfl, hw1⟩
    subst hw1
    go_wp2_with fail
    refine HH.out.mono ?_
    rintro e w2 ⟨rfl, hw2⟩
    have HB : Hid (Below w1.heap.size w1 w2) := hw2
    obtain ⟨c0, c1, c2, p0, p1, p2⟩ := HK.out w2 hw2
    clear hw2
    go_wp2
    go_ret2
    exact ⟨rfl, HB.out⟩
  · have e0 : seenP age p = none := by simp [seenP, hs]
    rw [e0] at HH ⊢
    unfold gotV
    clear e0 hs
    go_enter Tryz.func127, Tryz.ntmps127
    go_wp2_with fail
    refine HP.out.mono ?_
    rintro e w1 ⟨rfl, hw1⟩
    subst hw1
    go_wp2_with fail
    refine HH.out.mono ?_
    rintro e w2 ⟨rfl, hw2⟩
    have HB : Hid (Below w1.heap.size w1 w2) := hw2
    obtain ⟨c0, c1, c2, p0, p1, p2⟩ := HK.out w2 hw2
    clear hw2
    go_wp2
    go_ret2
    exact ⟨rfl, HB.out⟩
end

end Go.Proofs.YtodilocmfdeehaaGreatDoor.St

namespace Go.Proofs.YtodilocmfdeehaaGreatDoor.St
open Go.RowKit

attribute [local go_sem] Oper.semAt_some

theorem flatP_zero (n j : Nat) : (flatP (List.replicate n (0, 0, false)))[j]? = if j < n * 3 then some (#[Value.int .u64 0, .int .u32 0, .bool false][j % 3]!) else none := by
  split
  · rename_i h
    have hq : j / 3 < n := by omega
    obtain ⟨g0, g1, g2⟩ := flatP_get (List.replicate n (0, 0, false)) (j / 3) (0, 0, false) (by rw [List.getElem?_replicate, if_pos hq])
    have hj : j = j / 3 * 3 + j % 3 := by omega
    rcases (show j % 3 = 0 ∨ j % 3 = 1 ∨ j % 3 = 2 by omega) with e | e | e
    · rw [e] at hj ⊢
      rw [hj]
      simpa using g0
    · rw [e] at hj ⊢
      rw [hj]
      simpa using g1
    · rw [e] at hj ⊢
      rw [hj]
      simpa using g2
  · rename_i h
    rw [List.getElem?_eq_none]
    rw [flatP_len, List.length_replicate]
    omega
theorem made_places (n : Nat) : madeCells #[.int .u64 0, .int .u32 0, .bool false] (n * 3) = (flatP (List.replicate n (0, 0, false))).toArray := by
  apply Array.ext'
  apply List.ext_getElem?
  intro j
  rw [flatP_zero]
  split
  · rename_i h
    simp [madeCells, h]
  · rename_i h
    rw [List.getElem?_eq_none]
    rw [Array.length_toList, size_madeCells]
    omega

theorem infoPlace : (Tryz.prog.info? 236).map (fun i => (i.zero, i.size, i.bytes)) = some (some (.agg #[.int .u64 0, .int .u32 0, .bool false]), 3, 16) := by kernel_rfl
theorem make_places (n : Nat) (hn : n ≤ 65536) (w : World) : (Instr.makeSlice 226 (.int .i64 (n : Int)) (.int .i64 (n : Int))).run Tryz.prog w = .ok (.slice (some ⟨w.heap.size, 0, none⟩) n n) (w.alloc (.cells (flatP (List.replicate n (0, 0, false))).toArray 236)) := by
  obtain ⟨i, hi, hzz⟩ := Option.map_eq_some_iff.1 infoPlace
  simp only [Prod.mk.injEq] at hzz
  obtain ⟨hz, hs, hb⟩ := hzz
  have hr := run_make (P := Tryz.prog) w 226 236 i _ Tryz.underlying226 hi hz .i64 .i64 n n (by omega) (Int.le_refl _) (by rw [hb]; omega) (by omega)
  simp only [Int.toNat_natCast, hs] at hr
  rw [hr, ← made_places]
  rfl

set_option maxHeartbeats 1000000 in
theorem new_calls (n : Nat) (hn : n ≤ 65536) (age : Int) (ha : 0 ≤ age) (hA : age ≤ 4294967295) (w : World) : Calls Tryz.prog 123 #[.int .i64 n, .int .u32 age] w fun e w' => e = .returned (.tuple #[.pointer (some ⟨w.heap.size + 1, 0, none⟩), .nilIface]) ∧ IsStamp w' (w.heap.size + 1) w.heap.size n (List.replicate n none) ∧ Below w.heap.size w w' := by
  have hmk := make_places n hn
  have h1 : ¬ (n : Int) < 0 := by omega
  have h2 : ¬ (65536 : Int) < (n : Int) := by omega
  obtain ⟨W, hW⟩ : ∃ W, (w.alloc (.cells (flatP (List.replicate n (0, 0, false))).toArray 236)).alloc (.cells #[.slice (some ⟨w.heap.size, 0, none⟩) n n, .int .u32 age, .int .i64 0] 228) = W := ⟨_, rfl⟩
  have HB : Hid (Below w.heap.size w W) := by rw [← hW]; exact ((Below.refl _ w).alloc (Nat.le_refl _) _).alloc (by simp) _
  have HI : Hid (IsStamp W (w.heap.size + 1) w.heap.size n (List.replicate n none)) := by
    refine ⟨age, 0, List.replicate n (0, 0, false), ⟨?_, ?_, by simp, hn, by omega⟩, ha, hA, ?_, (cnt_none n).symm, ?_⟩
    · have h := heap_new (w.alloc (.cells (flatP (List.replicate n (0, 0, false))).toArray 236)) (.cells #[.slice (some ⟨w.heap.size, 0, none⟩) n n, .int .u32 age, .int .i64 0] 228)
      rw [hW] at h
      simpa using h
    · rw [← hW, Below.heap_alloc _ _ _ (by simp), heap_new]
    · rw [List.map_replicate]
      rfl
    · intro p hp hs
      rw [List.eq_of_mem_replicate hp] at hs
      cases hs
  have HW : Hid ((w.alloc (.cells (flatP (List.replicate n (0, 0, false))).toArray 236)).alloc (.cells #[.slice (some ⟨w.heap.size, 0, none⟩) n n, .int .u32 age, .int .i64 0] 228) = W) := hW
  clear hW
  go_enter Tryz.func123, Tryz.ntmps123
  go_wp2
  rw [HW.out]
  go_ret2
  exact ⟨rfl, HI.out, HB.out⟩

section
variable {w : World} {sb pb n : Nat} {vs : List (Option Int)}

/-- what is laid in a place is what it holds. -/
theorem laid_isStamp {w' : World} {age : Int} {ps : List Pl} (ha : 0 ≤ age) (hA : age ≤ 4294967295) (hO : ∀ p ∈ ps, p.2.2 = true → p.2.1 ≤ age) {i : Nat} (x : Int) (hM : Mem w' sb pb n age (cnt ((ps.map (seenP age)).set i (some x))) (ps.set i (x, age, true))) : IsStamp w' sb pb n ((ps.map (seenP age)).set i (some x)) := by
  refine ⟨age, _, _, hM, ha, hA, ?_, rfl, ?_⟩
  · rw [List.map_set]
    simp [seenP]
  · intro p hp hs
    rcases List.mem_or_eq_of_mem_set hp with h | h
    · exact hO p h hs
    · subst h
      exact Int.le_refl _

set_option maxHeartbeats 2000000 in
theorem set_calls (h : IsStamp w sb pb n vs) (i : Nat) (hi : i < n) (x : Int) : Calls Tryz.prog 130 #[.pointer (some ⟨sb, 0, none⟩), .int .i64 i, .int .u64 x] w fun e w' => e = .returned .nilIface ∧ IsStamp w' sb pb n (vs.set i (some x)) ∧ Fr sb pb w w' := by
  obtain ⟨age, held, ps, hM, ha, hA, rfl, hh, hO⟩ := h
  have hl := hM.len
  obtain ⟨p, hp⟩ : ∃ p, ps[i]? = some p := ⟨ps[i]'(by omega), List.getElem?_eq_getElem _⟩
  have hv : (ps.map (seenP age))[i]? = some (seenP age p) := by rw [List.getElem?_map, hp]; rfl
  have HP : Hid (type_of% (isPlace_in hM i hi)) := isPlace_in hM i hi
  have HH : Hid (type_of% (holds_calls hM hp)) := holds_calls hM hp
  have HM : Hid (Mem w sb pb n age held ps) := hM
  have HL : Hid (∀ w', Mem w' sb pb n age (cnt ((ps.map (seenP age)).set i (some x))) (ps.set i (x, age, true)) → IsStamp w' sb pb n ((ps.map (seenP age)).set i (some x))) := fun w' hM' => laid_isStamp ha hA hO x hM'
  have hcb : cnt (ps.map (seenP age)) ≤ 65536 := by have := cnt_le (ps.map (seenP age)); rw [List.length_map] at this; have := hM.big; omega
  have hhb : (held : Int) ≤ 65536 := by omega
  have hh0 : (0 : Int) ≤ (held : Int) := by omega
  have n1 : sb ≠ pb := hM.ne
  have n2 : pb ≠ sb := Ne.symm n1
  have b0 : (0 : Int) ≤ (i : Int) := by omega
  have b1 : (i : Int) < (n : Int) := by omega
  obtain ⟨VS, hVS⟩ : ∃ VS, (ps.map (seenP age)).set i (some x) = VS := ⟨_, rfl⟩
  rw [hVS] at HL ⊢
  have HI : Hid (ps[i]? = some p) := hp
  by_cases hs : p.2.2 = true ∧ p.2.1 = age
  · have e0 : seenP age p = some p.1 := by simp [seenP, hs]
    have HC : Hid (cnt VS = held) := by show _ = _; rw [← hVS, hh]; exact cnt_same _ _ _ p.1 (by rw [hv, e0])
    rw [e0] at HH
    clear hM hp hl hs e0 hv hh hVS hO ha hA hcb
    go_enter Tryz.func130, Tryz.ntmps130
    go_wp2_with fail
    refine HP.out.mono ?_
    rintro e w1 ⟨rfl, hw1⟩
    subst hw1
    go_wp2_with fail
    refine HH.out.mono ?_
    rintro e w2 ⟨rfl, hw2⟩
    have HB : Hid (Below w1.heap.size w1 w2) := hw2
    have HM2 : Hid (Mem w2 sb pb n age held ps) := HM.out.below hw2
    obtain ⟨c0, c1, c2, f0, f1, f2⟩ := HM2.out.cells
    obtain ⟨p0, p1, p2, g0, g1, g2⟩ := HM2.out.place HI.out
    have l0 : sb < w2.heap.size := lt_of_get HM2.out.box
    have l1 : pb < w2.heap.size := lt_of_get HM2.out.row
    clear hw2
    go_wp2_with fail
    go_region_held3 (fun w' => w'.cell? ⟨sb, 0, none⟩ = some (.slice (some ⟨pb, 0, none⟩) n n) ∧ w'.cell? ⟨sb, 1, none⟩ = some (.int .u32 age)) (go_keep) (first | fail)
    go_wp2
    go_ret
    refine ⟨rfl, HL.out _ ?_, ?_⟩
    · rw [HC.out]
      exact (HM2.out.put i (x, age, true)).below (below_draws (Below.refl _ _) 1)
    · exact (Fr.of_below HB.out).row _ _ |>.row _ _ |>.row _ _ |>.drew
  · have e0 : seenP age p = none := by simp [seenP, hs]
    have HC : Hid (cnt VS = held + 1) := by show _ = _; rw [← hVS, hh]; exact cnt_add _ _ _ (by rw [hv, e0])
    rw [e0] at HH
    clear hM hp hl hs e0 hv hh hVS hO ha hA hcb
    go_enter Tryz.func130, Tryz.ntmps130
    go_wp2_with fail
    refine HP.out.mono ?_
    rintro e w1 ⟨rfl, hw1⟩
    subst hw1
    go_wp2_with fail
    refine HH.out.mono ?_
    rintro e w2 ⟨rfl, hw2⟩
    have HB : Hid (Below w1.heap.size w1 w2) := hw2
    have HM2 : Hid (Mem w2 sb pb n age held ps) := HM.out.below hw2
    obtain ⟨c0, c1, c2, f0, f1, f2⟩ := HM2.out.cells
    obtain ⟨p0, p1, p2, g0, g1, g2⟩ := HM2.out.place HI.out
    have l0 : sb < w2.heap.size := lt_of_get HM2.out.box
    have l1 : pb < w2.heap.size := lt_of_get HM2.out.row
    have HW : Hid (∀ W3, w2.setCell ⟨sb, 2, none⟩ (.int .i64 ((held : Int) + 1)) = W3 → Mem W3 sb pb n age (held + 1) ps ∧ Fr sb pb w1 W3) := fun W3 e => by
      subst e
      exact ⟨HM2.out.setHeld (held + 1), (Fr.of_below HB.out).box _ _⟩
    clear hw2
    go_wp2_with fail
    generalize hW3 : w2.setCell ⟨sb, 2, none⟩ (.int .i64 ((held : Int) + 1)) = W3
    obtain ⟨hM3, hF3⟩ := HW.out W3 hW3
    clear c0 c1 c2 f0 f1 f2 p0 p1 p2 g0 g1 g2 l0 l1 hW3 HW HM2 HB
    have HM3 : Hid (Mem W3 sb pb n age (held + 1) ps) := hM3
    have HF3 : Hid (Fr sb pb w1 W3) := hF3
    obtain ⟨c0, c1, c2, f0, f1, f2⟩ := hM3.cells
    obtain ⟨p0, p1, p2, g0, g1, g2⟩ := hM3.place HI.out
    have l0 : sb < W3.heap.size := lt_of_get hM3.box
    have l1 : pb < W3.heap.size := lt_of_get hM3.row
    clear hM3 hF3
    go_region_held3 (fun w' => w'.cell? ⟨sb, 0, none⟩ = some (.slice (some ⟨pb, 0, none⟩) n n) ∧ w'.cell? ⟨sb, 1, none⟩ = some (.int .u32 age)) (go_keep) (first | fail)
    go_wp2
    go_ret
    refine ⟨rfl, HL.out _ ?_, ?_⟩
    · rw [HC.out]
      exact (HM3.out.put i (x, age, true)).below (below_draws (Below.refl _ _) 1)
    · exact HF3.out.row _ _ |>.row _ _ |>.row _ _ |>.drew

end
end Go.Proofs.YtodilocmfdeehaaGreatDoor.St
