/- The bounded search, as mathematics, at weights up to 2^47. (genwta.py) -/
import Derived.Test.YtbkclhaonbjobaaGreatCheck
namespace Go.Proofs.YtbkclhaonbjobaaGreat.Wt

abbrev Th := Int × Int
/-- by keys, alike ones by ids. -/
def ltT (x y : Th) : Prop := x.1 < y.1 ∨ (x.1 = y.1 ∧ x.2 < y.2)
/-- the keys by ids, one of them laid anew. -/
def upd (f : Int → Option Int) (d : Int) (v : Option Int) : Int → Option Int := fun e => if e = d then v else f e
/-- the least thing that is in. -/
def Least (n : Nat) (f : Int → Option Int) (d : Nat) (k : Int) : Prop := d < n ∧ f d = some k ∧ ∀ (e : Nat) j, e < n → f e = some j → ¬ ltT (j, (e : Int)) (k, (d : Int))
/-- an arc's ends stand ahead of another's. -/
def lessA (a b : Int × Int × Int) : Prop := a.1 < b.1 ∨ a.1 = b.1 ∧ a.2.1 < b.2.1
/-- a list that rises. -/
def RiseA (l : List (Int × Int × Int)) : Prop := l.Pairwise lessA
/-- how many arcs come from nodes below v. -/
def firstAt (zs : List (Int × Int × Int)) (v : Nat) : Nat := zs.countP fun a => decide (a.1 < (v : Int))
/-- a normal list of a right graph. -/
structure Fine (n : Nat) (zs : List (Int × Int × Int)) : Prop where
  rise : RiseA zs
  ends : ∀ a ∈ zs, 0 ≤ a.1 ∧ a.1 < (n : Int) ∧ 0 ≤ a.2.1 ∧ a.2.1 < (n : Int) ∧ a.1 ≠ a.2.1 ∧ 0 ≤ a.2.2 ∧ a.2.2 ≤ 140737488355328
  few : n ≤ 65536
  short : zs.length ≤ 262144
def firsts (n : Nat) (zs : List (Int × Int × Int)) : List Int := (List.range (n + 1)).map fun v => (firstAt zs v : Int)
def tos (zs : List (Int × Int × Int)) : List Int := zs.map (·.2.1)
def weights (zs : List (Int × Int × Int)) : List Int := zs.map (·.2.2)
theorem firstAt_le (zs : List (Int × Int × Int)) (v : Nat) : firstAt zs v ≤ zs.length := List.countP_le_length
/-- in a list that rises those from below v are its head. -/
theorem firstAt_lt : ∀ {zs : List (Int × Int × Int)}, RiseA zs → ∀ {i : Nat} {a : Int × Int × Int}, zs[i]? = some a → ∀ v : Nat, (i < firstAt zs v ↔ a.1 < (v : Int))
  | [], _, _, _, h, _ => by cases h
  | b :: r, hr, i, a, h, v => by
    obtain ⟨h1, h2⟩ := List.pairwise_cons.1 hr
    by_cases hb : b.1 < (v : Int)
    · have e : firstAt (b :: r) v = firstAt r v + 1 := by
        unfold firstAt
        rw [List.countP_cons_of_pos (by simpa using hb)]
      rw [e]
      cases i with
      | zero => cases h; simp [hb]
      | succ i =>
        have ih := firstAt_lt h2 (i := i) (a := a) h v
        rw [← ih]
        omega
    · have e : firstAt (b :: r) v = 0 := by
        unfold firstAt
        rw [List.countP_eq_zero]
        intro c hc
        simp only [decide_eq_true_eq]
        rcases List.mem_cons.1 hc with rfl | hc
        · exact hb
        · have := h1 c hc
          unfold lessA at this
          omega
      rw [e]
      have hab : b.1 ≤ a.1 := by
        cases i with
        | zero => cases h; exact Int.le_refl _
        | succ i =>
          have := h1 a (List.mem_of_getElem? h)
          unfold lessA at this
          omega
      omega
theorem Fine.row {n : Nat} {zs : List (Int × Int × Int)} (h : Fine n zs) {i v : Nat} {a : Int × Int × Int} (ha : zs[i]? = some a) (h1 : firstAt zs v ≤ i) (h2 : i < firstAt zs (v + 1)) : a.1 = (v : Int) := by
  have g1 := firstAt_lt h.rise ha v
  have g2 := firstAt_lt h.rise ha (v + 1)
  have g3 := g2.1 h2
  have g4 : ¬ a.1 < (v : Int) := fun e => by have := g1.2 e; omega
  omega
/-- how many arcs come from u. -/
def fromAt (zs : List (Int × Int × Int)) (u : Nat) : Nat := zs.countP fun a => decide (a.1 = (u : Int))
/-- what a finder knows. -/
structure FS where
  vs : List (Option Int)
  hs : Nat → Int
  ah : Nat → Int
  f : Int → Option Int
/-- a label more. -/
def FS.lab (S : FS) (x : Nat) (d hp ah : Int) : FS := ⟨S.vs.set x (some d), fun i => if i = x then hp else S.hs i, fun i => if i = x then ah else S.ah i, upd S.f x (some d)⟩
/-- is this way to a node shorter than what is known? -/
def FS.better (S : FS) (x : Nat) (d : Int) : Bool := match S.vs[x]? with
  | some (some k) => decide (d < k)
  | some none => true
  | none => false
/-- an arc is looked at. -/
def relax1 (v : Nat) (d h : Int) (S : FS) (a : Int × Int × Int) : FS := if S.better a.2.1.toNat (d + a.2.2) then S.lab a.2.1.toNat (d + a.2.2) (h + 1) v else S
/-- the arcs of a node. -/
def arcRow (zs : List (Int × Int × Int)) (i j : Nat) : List (Int × Int × Int) := (zs.take j).drop i
/-- a walk of so many steps, and its length. -/
def ReachN (zs : List (Int × Int × Int)) (s : Int) : Nat → Int → Int → Prop
  | 0, v, d => v = s ∧ d = 0
  | k + 1, v, d => ∃ u e r, ReachN zs s k u e ∧ (u, v, r) ∈ zs ∧ d = e + r
def Reach (zs : List (Int × Int × Int)) (s v d : Int) : Prop := ∃ k, ReachN zs s k v d
/-- a node is settled. -/
def FS.pop (S : FS) (v : Nat) : FS := { S with f := upd S.f v none }
def FS.step (zs : List (Int × Int × Int)) (hb : Int) (S : FS) (v : Nat) (k : Int) : FS := if S.hs v < hb then (arcRow zs (firstAt zs v) (firstAt zs (v + 1))).foldl (relax1 v k (S.hs v)) (S.pop v) else S.pop v
def Steps (n : Nat) (zs : List (Int × Int × Int)) (hb mo : Int) (S0 : FS) : Nat → FS → Prop
  | 0, S => S = S0
  | t + 1, S => ∃ S1 v k, Steps n zs hb mo S0 t S1 ∧ Least n S1.f v k ∧ k ≤ mo ∧ S = S1.step zs hb v k
/-- is a node settled? -/
def FS.fix (S : FS) (v : Nat) : Bool := (match S.vs[v]? with | some (some _) => true | _ => false) && (S.f (v : Int)).isNone
def FS.cnt (n : Nat) (S : FS) : Nat := (List.range n).countP (S.fix ·)
theorem FS.fix_iff {S : FS} {v : Nat} : S.fix v = true ↔ (∃ d, S.vs[v]? = some (some d)) ∧ S.f (v : Int) = none := by
  unfold FS.fix
  rw [Bool.and_eq_true, Option.isNone_iff_eq_none]
  constructor
  · rintro ⟨h1, h2⟩
    refine ⟨?_, h2⟩
    split at h1
    · rename_i d h; exact ⟨d, h⟩
    · cases h1
  · rintro ⟨⟨d, h1⟩, h2⟩
    exact ⟨by rw [h1], h2⟩
/-- what holds between two steps. -/
structure SInv (n : Nat) (zs : List (Int × Int × Int)) (hb : Int) (s t : Nat) (S : FS) : Prop where
  lv : S.vs.length = n
  opn : ∀ (v : Nat) (k : Int), v < n → S.f (v : Int) = some k → S.vs[v]? = some (some k)
  lab : ∀ (v : Nat) (d : Int), S.vs[v]? = some (some d) → 0 ≤ d ∧ d ≤ S.hs v * 140737488355328 ∧ 0 ≤ S.hs v ∧ S.hs v ≤ (t : Int) ∧ Reach zs (s : Int) (v : Int) d
  src : S.vs[s]? = some (some 0)
  mono : ∀ (v : Nat) (d : Int) (u : Nat) (k : Int), S.vs[v]? = some (some d) → S.f (v : Int) = none → u < n → S.f (u : Int) = some k → d ≤ k
  done : ∀ (v : Nat) (d : Int), S.vs[v]? = some (some d) → S.f (v : Int) = none → S.hs v < hb → ∀ (u r : Int), ((v : Int), u, r) ∈ zs → ∃ e, S.vs[u.toNat]? = some (some e) ∧ e ≤ d + r
  cnt : S.cnt n = t
/-- what holds while a node's arcs are looked at. -/
structure MInv (n : Nat) (zs : List (Int × Int × Int)) (hb : Int) (s t : Nat) (v : Nat) (k h : Int) (l : List (Int × Int × Int)) (S : FS) : Prop where
  lv : S.vs.length = n
  opn : ∀ (u : Nat) (e : Int), u < n → S.f (u : Int) = some e → S.vs[u]? = some (some e) ∧ k ≤ e
  lab : ∀ (u : Nat) (d : Int), S.vs[u]? = some (some d) → 0 ≤ d ∧ d ≤ S.hs u * 140737488355328 ∧ 0 ≤ S.hs u ∧ S.hs u ≤ (t : Int) + 1 ∧ Reach zs (s : Int) (u : Int) d
  src : S.vs[s]? = some (some 0)
  low : ∀ (u : Nat) (d : Int), S.vs[u]? = some (some d) → S.f (u : Int) = none → d ≤ k
  done : ∀ (u : Nat) (d : Int), u ≠ v → S.vs[u]? = some (some d) → S.f (u : Int) = none → S.hs u < hb → ∀ (y r : Int), ((u : Int), y, r) ∈ zs → ∃ e, S.vs[y.toNat]? = some (some e) ∧ e ≤ d + r
  me : S.vs[v]? = some (some k) ∧ S.f (v : Int) = none ∧ S.hs v = h
  seen : ∀ a ∈ l, ∃ e, S.vs[a.2.1.toNat]? = some (some e) ∧ e ≤ k + a.2.2
  cnt : S.cnt n = t + 1
theorem set_get {α : Type} {l : List α} {i j : Nat} {x y : α} (h : (l.set i x)[j]? = some y) : (j = i ∧ y = x) ∨ (j ≠ i ∧ l[j]? = some y) := by
  rw [List.getElem?_set] at h
  split at h
  · rename_i e
    subst e
    split at h
    · exact Or.inl ⟨rfl, (Option.some.inj h).symm⟩
    · cases h
  · rename_i e
    exact Or.inr ⟨fun e' => e e'.symm, h⟩
theorem MInv.next {n : Nat} {zs : List (Int × Int × Int)} {hb : Int} {s t v : Nat} {k h : Int} {l : List (Int × Int × Int)} {S : FS} (hz : Fine n zs) (hI : MInv n zs hb s t v k h l S) (hh : 0 ≤ h) (hh2 : h ≤ (t : Int)) (hk : 0 ≤ k) (hkh : k ≤ h * 140737488355328) {a : Int × Int × Int} (ha : a ∈ zs) (hav : a.1 = (v : Int)) : MInv n zs hb s t v k h (l ++ [a]) (relax1 v k h S a) := by
  have he := hz.ends a ha
  obtain ⟨x, hx⟩ : ∃ x : Nat, a.2.1 = (x : Int) := ⟨a.2.1.toNat, by omega⟩
  obtain ⟨r, hr⟩ : ∃ r, a.2.2 = r := ⟨_, rfl⟩
  have hxn : x < n := by omega
  have hxv : x ≠ v := by omega
  have r0 : 0 ≤ r := by omega
  have r1 : r ≤ 140737488355328 := by omega
  have hax : ((v : Int), (x : Int), r) ∈ zs := by
    have : a = ((v : Int), (x : Int), r) := by rw [← hav, ← hx, ← hr]
    rw [← this]; exact ha
  have hRv := (hI.lab v k hI.me.1).2.2.2.2
  have hRx : Reach zs (s : Int) (x : Int) (k + r) := by
    obtain ⟨m, hm⟩ := hRv
    exact ⟨m + 1, (v : Int), k, r, hm, hax, rfl⟩
  unfold relax1
  rw [hx, hr, Int.toNat_natCast]
  have hxl : x < S.vs.length := by rw [hI.lv]; exact hxn
  by_cases hb' : S.better x (k + r) = true
  · rw [if_pos hb']
    -- what was known there
    have hopen : ∀ d, S.vs[x]? = some (some d) → k + r < d ∧ S.f (x : Int) ≠ none := fun d hd => by
      have hlt : k + r < d := by
        unfold FS.better at hb'
        rw [hd] at hb'
        simpa using hb'
      exact ⟨hlt, fun e => by have := hI.low x d hd e; omega⟩
    have hsx : (S.vs.set x (some (k + r)))[x]? = some (some (k + r)) := by rw [List.getElem?_set]; simp [hxl]
    have hso : ∀ u, u ≠ x → (S.vs.set x (some (k + r)))[u]? = S.vs[u]? := fun u hu => by rw [List.getElem?_set, if_neg (fun e => hu e.symm)]
    have hfx : ∀ u : Nat, upd S.f x (some (k + r)) (u : Int) = if u = x then some (k + r) else S.f (u : Int) := fun u => by
      unfold upd
      by_cases e : u = x
      · rw [if_pos (by omega), if_pos e]
      · rw [if_neg (by omega), if_neg e]
    have hfo : ∀ u : Nat, upd S.f x (some (k + r)) (u : Int) = none → u ≠ x ∧ S.f (u : Int) = none := fun u h => by
      rw [hfx] at h
      split at h
      · cases h
      · rename_i e; exact ⟨e, h⟩
    have hlow : ∀ (y : Nat) (e : Int), S.vs[y]? = some (some e) → ∃ e', (S.vs.set x (some (k + r)))[y]? = some (some e') ∧ e' ≤ e := fun y e hy => by
      by_cases hyx : y = x
      · subst hyx
        exact ⟨k + r, hsx, by have := (hopen e hy).1; omega⟩
      · exact ⟨e, by rw [hso y hyx]; exact hy, Int.le_refl _⟩
    refine ⟨by show (S.vs.set x (some (k + r))).length = n; rw [List.length_set]; exact hI.lv, fun u e hu hf => ?_, fun u d hd => ?_, ?_, fun u d hd hf => ?_, fun u d huv hd hf hhs y r' hm => ?_, ⟨by show (S.vs.set x (some (k + r)))[v]? = _; rw [hso v (Ne.symm hxv)]; exact hI.me.1, by show upd S.f x (some (k + r)) (v : Int) = none; rw [hfx, if_neg (Ne.symm hxv)]; exact hI.me.2.1, by show (if v = x then h + 1 else S.hs v) = h; rw [if_neg (Ne.symm hxv)]; exact hI.me.2.2⟩, fun b hbm => ?_, ?_⟩
    · have hf' : upd S.f x (some (k + r)) (u : Int) = some e := hf
      rw [hfx] at hf'
      split at hf'
      · rename_i e'
        subst e'
        cases hf'
        exact ⟨hsx, by omega⟩
      · rename_i e'
        exact ⟨by show (S.vs.set x (some (k + r)))[u]? = _; rw [hso u e']; exact (hI.opn u e hu hf').1, (hI.opn u e hu hf').2⟩
    · have hd' : (S.vs.set x (some (k + r)))[u]? = some (some d) := hd
      show 0 ≤ d ∧ d ≤ (if u = x then h + 1 else S.hs u) * 140737488355328 ∧ 0 ≤ (if u = x then h + 1 else S.hs u) ∧ (if u = x then h + 1 else S.hs u) ≤ (t : Int) + 1 ∧ Reach zs (s : Int) (u : Int) d
      rcases set_get hd' with ⟨rfl, e⟩ | ⟨e, hd2⟩
      · cases e
        rw [if_pos rfl]
        exact ⟨by omega, by omega, by omega, by omega, hRx⟩
      · rw [if_neg e]
        exact hI.lab u d hd2
    · show (S.vs.set x (some (k + r)))[s]? = some (some 0)
      by_cases e : s = x
      · subst e
        have := (hopen 0 hI.src).1
        omega
      · rw [hso s e]; exact hI.src
    · obtain ⟨e, hf'⟩ := hfo u hf
      have hd' : (S.vs.set x (some (k + r)))[u]? = some (some d) := hd
      rw [hso u e] at hd'
      exact hI.low u d hd' hf'
    · obtain ⟨e, hf'⟩ := hfo u hf
      have hd' : (S.vs.set x (some (k + r)))[u]? = some (some d) := hd
      rw [hso u e] at hd'
      have hhs' : (if u = x then h + 1 else S.hs u) < hb := hhs
      rw [if_neg e] at hhs'
      obtain ⟨e1, g1, g2⟩ := hI.done u d huv hd' hf' hhs' y r' hm
      obtain ⟨e2, g3, g4⟩ := hlow _ e1 g1
      exact ⟨e2, g3, by omega⟩
    · rcases List.mem_append.1 hbm with hbm | hbm
      · obtain ⟨e1, g1, g2⟩ := hI.seen b hbm
        obtain ⟨e2, g3, g4⟩ := hlow _ e1 g1
        exact ⟨e2, g3, by omega⟩
      · simp at hbm
        subst hbm
        rw [hx, Int.toNat_natCast, hr]
        exact ⟨k + r, hsx, Int.le_refl _⟩
    · rw [← hI.cnt]
      unfold FS.cnt
      refine List.countP_congr fun u hu => ?_
      have hun := List.mem_range.1 hu
      rw [FS.fix_iff, FS.fix_iff]
      show (∃ d, (S.vs.set x (some (k + r)))[u]? = some (some d)) ∧ upd S.f x (some (k + r)) (u : Int) = none ↔ _
      constructor
      · rintro ⟨⟨d, hd⟩, hf⟩
        obtain ⟨e, hf'⟩ := hfo u hf
        rw [hso u e] at hd
        exact ⟨⟨d, hd⟩, hf'⟩
      · rintro ⟨⟨d, hd⟩, hf⟩
        have e : u ≠ x := fun e => by subst e; exact (hopen d hd).2 hf
        exact ⟨⟨d, by rw [hso u e]; exact hd⟩, by rw [hfx, if_neg e]; exact hf⟩
  · rw [if_neg hb']
    refine ⟨hI.lv, hI.opn, hI.lab, hI.src, hI.low, hI.done, hI.me, fun b hbm => ?_, hI.cnt⟩
    rcases List.mem_append.1 hbm with hbm | hbm
    · exact hI.seen b hbm
    · simp at hbm
      subst hbm
      rw [hx, Int.toNat_natCast, hr]
      obtain ⟨o, ho⟩ : ∃ o, S.vs[x]? = some o := ⟨S.vs[x], List.getElem?_eq_getElem hxl⟩
      unfold FS.better at hb'
      rw [ho] at hb'
      cases o with
      | none => simp at hb'
      | some e => exact ⟨e, ho, by simpa using hb'⟩
theorem MInv.all {n : Nat} {zs : List (Int × Int × Int)} {hb : Int} {s t v : Nat} {k h : Int} (hz : Fine n zs) (hh : 0 ≤ h) (hh2 : h ≤ (t : Int)) (hk : 0 ≤ k) (hkh : k ≤ h * 140737488355328) : ∀ (m l : List (Int × Int × Int)) (S : FS), MInv n zs hb s t v k h l S → (∀ a ∈ m, a ∈ zs ∧ a.1 = (v : Int)) → MInv n zs hb s t v k h (l ++ m) (m.foldl (relax1 v k h) S)
  | [], l, S, hI, _ => by simpa using hI
  | a :: m, l, S, hI, hm => by
    have h1 := hI.next hz hh hh2 hk hkh (hm a (by simp)).1 (hm a (by simp)).2
    have h2 := MInv.all hz hh hh2 hk hkh m (l ++ [a]) _ h1 (fun b hb => hm b (by simp [hb]))
    rw [List.append_assoc] at h2
    exact h2
theorem Fine.arcRow_mem {n : Nat} {zs : List (Int × Int × Int)} (hz : Fine n zs) (v : Nat) (a : Int × Int × Int) : a ∈ arcRow zs (firstAt zs v) (firstAt zs (v + 1)) ↔ a ∈ zs ∧ a.1 = (v : Int) := by
  have hl := firstAt_le zs (v + 1)
  constructor
  · intro h
    obtain ⟨j, hj⟩ := List.getElem?_of_mem h
    unfold arcRow at hj
    rw [List.getElem?_drop, List.getElem?_take] at hj
    split at hj
    · exact ⟨List.mem_of_getElem? hj, hz.row hj (by omega) (by omega)⟩
    · cases hj
  · rintro ⟨h, hv⟩
    obtain ⟨i, hi⟩ := List.getElem?_of_mem h
    have g1 := firstAt_lt hz.rise hi v
    have g2 := firstAt_lt hz.rise hi (v + 1)
    have h1 : firstAt zs v ≤ i := by
      rcases Nat.lt_or_ge i (firstAt zs v) with h' | h'
      · have := g1.1 h'; omega
      · exact h'
    have h2 : i < firstAt zs (v + 1) := g2.2 (by omega)
    refine List.mem_of_getElem? (i := i - firstAt zs v) ?_
    unfold arcRow
    rw [List.getElem?_drop, List.getElem?_take, if_pos (by omega), show firstAt zs v + (i - firstAt zs v) = i by omega]
    exact hi
theorem SInv.lt {n : Nat} {zs : List (Int × Int × Int)} {hb : Int} {s t : Nat} {S : FS} (hI : SInv n zs hb s t S) {v : Nat} {k : Int} (hL : Least n S.f v k) : t < n := by
  have h1 := hI.cnt
  unfold FS.cnt at h1
  have h2 : (List.range n).countP (S.fix ·) < (List.range n).length := by
    rcases Nat.lt_or_ge ((List.range n).countP (S.fix ·)) (List.range n).length with h | h
    · exact h
    · have h3 := List.countP_eq_length.1 (Nat.le_antisymm List.countP_le_length h) v (List.mem_range.2 hL.1)
      have := (FS.fix_iff.1 h3).2
      rw [hL.2.1] at this
      cases this
  rw [List.length_range] at h2
  omega
theorem SInv.step {n : Nat} {zs : List (Int × Int × Int)} {hb : Int} {s t : Nat} {S : FS} (hz : Fine n zs) (hI : SInv n zs hb s t S) {v : Nat} {k : Int} (hL : Least n S.f v k) : SInv n zs hb s (t + 1) (S.step zs hb v k) := by
  obtain ⟨hv, hf, hmin⟩ := hL
  have hme := hI.opn v k hv hf
  obtain ⟨l1, l2, l3, l4, l5⟩ := hI.lab v k hme
  have hup : ∀ u : Nat, upd S.f v none (u : Int) = if u = v then none else S.f (u : Int) := fun u => by
    unfold upd
    by_cases e : u = v
    · rw [if_pos (by omega), if_pos e]
    · rw [if_neg (by omega), if_neg e]
  have hleast : ∀ (u : Nat) (e : Int), u < n → S.f (u : Int) = some e → k ≤ e := fun u e hu he => by
    have := hmin u e hu he
    unfold ltT at this
    simp only at this
    omega
  have hcnt : (S.pop v).cnt n = t + 1 := by
    rw [← hI.cnt]
    unfold FS.cnt
    have hsplit : ∀ (l : List Nat), l.Nodup → v ∈ l → l.countP ((S.pop v).fix ·) = l.countP (S.fix ·) + 1 := by
      intro l
      induction l with
      | nil => intro _ h; cases h
      | cons b m ih =>
        intro hn hm
        obtain ⟨hb1, hb2⟩ := List.nodup_cons.1 hn
        have hsame : ∀ u, u ≠ v → (S.pop v).fix u = S.fix u := fun u hu => by
          rw [Bool.eq_iff_iff, FS.fix_iff, FS.fix_iff]
          show _ ∧ upd S.f v none (u : Int) = none ↔ _
          rw [hup, if_neg hu]
          exact Iff.rfl
        by_cases e : b = v
        · subst e
          have hc : m.countP ((S.pop b).fix ·) = m.countP (S.fix ·) := List.countP_congr fun u hu => by rw [hsame u (fun e => hb1 (e ▸ hu))]
          have p1 : (S.pop b).fix b = true := FS.fix_iff.2 ⟨⟨k, hme⟩, by show upd S.f b none (b : Int) = none; rw [hup, if_pos rfl]⟩
          have p2 : ¬ S.fix b = true := fun h => by rw [FS.fix_iff, hf] at h; cases h.2
          rw [List.countP_cons_of_pos p1, List.countP_cons_of_neg p2, hc]
        · have hm' : v ∈ m := by
            rcases List.mem_cons.1 hm with h | h
            · exact absurd h.symm e
            · exact h
          have := ih hb2 hm'
          by_cases p : S.fix b = true
          · rw [List.countP_cons_of_pos (by rw [hsame b e]; exact p), List.countP_cons_of_pos p, this]
          · rw [List.countP_cons_of_neg (by rw [hsame b e]; exact p), List.countP_cons_of_neg p, this]
    exact hsplit _ List.nodup_range (List.mem_range.2 hv)
  have hM : MInv n zs hb s t v k (S.hs v) [] (S.pop v) := by
    refine ⟨hI.lv, fun u e hu h => ?_, fun u d hd => ?_, hI.src, fun u d hd h => ?_, fun u d huv hd h hhs => ?_, ⟨hme, by show upd S.f v none (v : Int) = none; rw [hup, if_pos rfl], rfl⟩, (fun a ha => by cases ha), hcnt⟩
    · have h' : upd S.f v none (u : Int) = some e := h
      rw [hup] at h'
      split at h'
      · cases h'
      · exact ⟨hI.opn u e hu h', hleast u e hu h'⟩
    · obtain ⟨a1, a2, a3, a4, a5⟩ := hI.lab u d hd
      exact ⟨a1, a2, a3, by show S.hs u ≤ (t : Int) + 1; omega, a5⟩
    · have h' : upd S.f v none (u : Int) = none := h
      rw [hup] at h'
      have hd' : S.vs[u]? = some (some d) := hd
      by_cases e : u = v
      · subst e
        rw [hme] at hd'
        cases hd'
        exact Int.le_refl _
      · rw [if_neg e] at h'
        exact hI.mono u d v k hd' h' hv hf
    · have h' : upd S.f v none (u : Int) = none := h
      rw [hup, if_neg huv] at h'
      exact hI.done u d hd h' hhs
  have fin : ∀ (S' : FS), MInv n zs hb s t v k (S.hs v) (if S.hs v < hb then arcRow zs (firstAt zs v) (firstAt zs (v + 1)) else []) S' → SInv n zs hb s (t + 1) S' := fun S' h => by
    refine ⟨h.lv, fun u e hu he => (h.opn u e hu he).1, fun u d hd => ?_, h.src, fun u d x e hd hf hx he => Int.le_trans (h.low u d hd hf) (h.opn x e hx he).2, fun u d hd hf hhs y r hm => ?_, h.cnt⟩
    · obtain ⟨a1, a2, a3, a4, a5⟩ := h.lab u d hd
      exact ⟨a1, a2, a3, by omega, a5⟩
    · by_cases e : u = v
      · subst e
        rw [h.me.1] at hd
        cases hd
        rw [h.me.2.2] at hhs
        have := h.seen ((u : Int), y, r) (by rw [if_pos hhs]; exact (hz.arcRow_mem u _).2 ⟨hm, rfl⟩)
        exact this
      · exact h.done u d e hd hf hhs y r hm
  unfold FS.step
  split
  · rename_i hlt
    have := MInv.all hz l3 l4 l1 l2 (arcRow zs (firstAt zs v) (firstAt zs (v + 1))) [] _ hM (fun a ha => (hz.arcRow_mem v a).1 ha)
    refine fin _ ?_
    rw [if_pos hlt]
    simpa using this
  · rename_i hlt
    refine fin _ ?_
    rw [if_neg hlt]
    exact hM
theorem steps_inv {n : Nat} {zs : List (Int × Int × Int)} {hb mo : Int} {s : Nat} {S0 : FS} (hz : Fine n zs) (h0 : SInv n zs hb s 0 S0) : ∀ (t : Nat) (S : FS), Steps n zs hb mo S0 t S → SInv n zs hb s t S
  | 0, S, h => by cases h; exact h0
  | t + 1, S, h => by
    obtain ⟨S1, v, k, h1, h2, _, rfl⟩ := h
    exact (steps_inv hz h0 t S1 h1).step hz h2
/-- the beginning. -/
theorem start_inv {n : Nat} {zs : List (Int × Int × Int)} {hb : Int} {s : Nat} (hs : s < n) (S : FS) (hv : S.vs = List.replicate n none) (hfz : S.f = fun _ => none) : SInv n zs hb s 0 (S.lab s 0 0 s) := by
  have hl : S.vs.length = n := by rw [hv, List.length_replicate]
  have hnone : ∀ (u : Nat) (d : Int), S.vs[u]? ≠ some (some d) := fun u d h => by
    rw [hv, List.getElem?_replicate] at h
    split at h
    · cases h
    · cases h
  have hss : (S.vs.set s (some (0 : Int)))[s]? = some (some 0) := by rw [List.getElem?_set]; simp [hl, hs]
  have hfx : ∀ u : Nat, upd S.f s (some 0) (u : Int) = if u = s then some 0 else none := fun u => by
    unfold upd
    by_cases e : u = s
    · rw [if_pos (by omega), if_pos e]
    · rw [if_neg (by omega), if_neg e, hfz]
  have hone : ∀ (u : Nat) (d : Int), (S.vs.set s (some (0 : Int)))[u]? = some (some d) → u = s ∧ d = 0 := fun u d h => by
    rcases set_get h with ⟨e, e2⟩ | ⟨_, h2⟩
    · cases e2; exact ⟨e, rfl⟩
    · exact absurd h2 (hnone u d)
  refine ⟨by show (S.vs.set s (some (0 : Int))).length = n; rw [List.length_set]; exact hl, fun u k hu h => ?_, fun u d hd => ?_, hss, fun u d x k hd h hx hk => ?_, fun u d hd h => ?_, ?_⟩
  · have h' : upd S.f s (some 0) (u : Int) = some k := h
    rw [hfx] at h'
    split at h'
    · rename_i e; subst e; cases h'; exact hss
    · cases h'
  · obtain ⟨rfl, rfl⟩ := hone u d hd
    show _ ∧ _ ≤ (if u = u then (0 : Int) else S.hs u) * 140737488355328 ∧ 0 ≤ (if u = u then (0 : Int) else S.hs u) ∧ (if u = u then (0 : Int) else S.hs u) ≤ ((0 : Nat) : Int) ∧ _
    rw [if_pos rfl]
    exact ⟨by omega, by omega, by omega, by omega, 0, rfl, rfl⟩
  · obtain ⟨rfl, rfl⟩ := hone u d hd
    have h' : upd S.f u (some 0) (u : Int) = none := h
    rw [hfx, if_pos rfl] at h'
    cases h'
  · obtain ⟨rfl, rfl⟩ := hone u d hd
    have h' : upd S.f u (some 0) (u : Int) = none := h
    rw [hfx, if_pos rfl] at h'
    cases h'
  · unfold FS.cnt
    rw [List.countP_eq_zero]
    intro u hu hfx'
    rw [FS.fix_iff] at hfx'
    obtain ⟨⟨d, hd⟩, h⟩ := hfx'
    obtain ⟨rfl, _⟩ := hone u d hd
    have h' : upd S.f u (some 0) (u : Int) = none := h
    rw [hfx, if_pos rfl] at h'
    cases h'
/-- the distances from a node. -/
def IsDist (n : Nat) (zs : List (Int × Int × Int)) (s : Nat) (D : List Int) : Prop := D.length = n ∧ ∀ v : Nat, v < n → ∃ x, D[v]? = some x ∧ ((0 ≤ x ∧ x ≤ 9223372036854775808 ∧ Reach zs (s : Int) (v : Int) x ∧ ∀ e, Reach zs (s : Int) (v : Int) e → x ≤ e) ∨ (x = 18446744073709551615 ∧ ∀ e, ¬ Reach zs (s : Int) (v : Int) e))
/-- what is told of a node. -/
def farOr (o : Option (Option Int)) : Int := match o with
  | some (some d) => d
  | _ => 18446744073709551615
theorem SInv.dist {n : Nat} {zs : List (Int × Int × Int)} {hb : Int} {s t : Nat} {S : FS} (hz : Fine n zs) (hI : SInv n zs hb s t S) (ht : t ≤ n) (hbig : (n : Int) < hb) (hno : ∀ d : Nat, d < n → S.f (d : Int) = none) : IsDist n zs s ((List.range n).map fun v => farOr S.vs[v]?) := by
  have hn := hz.few
  have hlen : ∀ (v : Nat) (d : Int), S.vs[v]? = some (some d) → v < n := fun v d h => by
    have := (List.getElem?_eq_some_iff.1 h).1
    rw [hI.lv] at this
    exact this
  have hle : ∀ (m : Nat) (v d : Int), ReachN zs (s : Int) m v d → 0 ≤ v ∧ ∃ e, S.vs[v.toNat]? = some (some e) ∧ e ≤ d := by
    intro m
    induction m with
    | zero =>
      rintro v d ⟨rfl, rfl⟩
      exact ⟨by omega, 0, by rw [Int.toNat_natCast]; exact hI.src, Int.le_refl _⟩
    | succ m ih =>
      rintro v d ⟨u, e, r, h1, h2, rfl⟩
      obtain ⟨hu, e', h3, h4⟩ := ih u e h1
      have hul := hlen _ _ h3
      have hb' := (hI.lab _ _ h3).2.2.2.1
      have hmem : ((u.toNat : Int), v, r) ∈ zs := by rw [show (u.toNat : Int) = u by omega]; exact h2
      have hends := hz.ends _ h2
      obtain ⟨f, h5, h6⟩ := hI.done u.toNat e' h3 (hno _ hul) (by omega) v r hmem
      simp only at hends
      exact ⟨by omega, f, h5, by omega⟩
  refine ⟨by simp, fun v hv => ⟨farOr S.vs[v]?, by rw [List.getElem?_map, List.getElem?_range hv]; rfl, ?_⟩⟩
  obtain ⟨o, ho⟩ : ∃ o, S.vs[v]? = some o := ⟨S.vs[v]'(by rw [hI.lv]; exact hv), List.getElem?_eq_getElem _⟩
  rw [ho]
  cases o with
  | none =>
    refine Or.inr ⟨rfl, fun e ⟨m, hm⟩ => ?_⟩
    obtain ⟨_, e', h, _⟩ := hle m v e hm
    rw [Int.toNat_natCast, ho] at h
    cases h
  | some d =>
    obtain ⟨a1, a2, a3, a4, a5⟩ := hI.lab v d ho
    refine Or.inl ⟨a1, ?_, a5, fun e ⟨m, hm⟩ => ?_⟩
    · have : S.hs v ≤ 65536 := by omega
      show d ≤ 9223372036854775808
      omega
    · obtain ⟨_, e', h, h2⟩ := hle m v e hm
      rw [Int.toNat_natCast, ho] at h
      cases h
      exact h2
theorem least_unique {n : Nat} {f : Int → Option Int} {d e : Nat} {k j : Int} (h : Least n f d k) (g : Least n f e j) : d = e ∧ k = j := by
  have h1 := h.2.2 e j g.1 g.2.1
  have h2 := g.2.2 d k h.1 h.2.1
  unfold ltT at h1 h2
  simp only at h1 h2
  omega
/-- why a run ends. -/
def RunEnd (n : Nat) (se mo : Int) (t : Nat) (S : FS) : Prop := (¬ ((t : Int) < se) ∧ (t = 0 ∨ (t : Int) ≤ se)) ∨ ((∀ d : Nat, d < n → S.f (d : Int) = none) ∧ (t = 0 ∨ (t : Int) ≤ se)) ∨ ∃ v k, Least n S.f v k ∧ mo < k ∧ (t = 0 ∨ (t : Int) ≤ se)
/-- how it begins. -/
def FS.begin (n : Nat) (S : FS) (s : Nat) : FS := (⟨List.replicate n none, S.hs, S.ah, fun _ => none⟩ : FS).lab s 0 0 s
theorem steps_le {n : Nat} {zs : List (Int × Int × Int)} {hb mo : Int} {s : Nat} {S0 : FS} (hz : Fine n zs) (h0 : SInv n zs hb s 0 S0) {t : Nat} {S : FS} (h : Steps n zs hb mo S0 t S) : t ≤ n := by
  cases t with
  | zero => omega
  | succ t =>
    obtain ⟨S1, v, k, h1, h2, _, _⟩ := h
    exact (steps_inv hz h0 t S1 h1).lt h2
theorem steps_det {n : Nat} {zs : List (Int × Int × Int)} {hb mo : Int} {S0 : FS} : ∀ (t : Nat) (S S' : FS), Steps n zs hb mo S0 t S → Steps n zs hb mo S0 t S' → S = S'
  | 0, S, S', h, h' => h.trans h'.symm
  | t + 1, S, S', ⟨S1, v, k, h1, h2, _, h4⟩, ⟨S1', v', k', h1', h2', _, h4'⟩ => by
    obtain rfl := steps_det t S1 S1' h1 h1'
    obtain ⟨rfl, rfl⟩ := least_unique h2 h2'
    rw [h4, h4']
theorem steps_prefix {n : Nat} {zs : List (Int × Int × Int)} {hb mo : Int} {S0 : FS} : ∀ (m t : Nat) (S : FS), Steps n zs hb mo S0 (t + m + 1) S → ∃ S1 v k, Steps n zs hb mo S0 t S1 ∧ Least n S1.f v k ∧ k ≤ mo
  | 0, _, _, ⟨S1, v, k, h1, h2, h3, _⟩ => ⟨S1, v, k, h1, h2, h3⟩
  | m + 1, t, _, ⟨S1, _, _, h1, _, _, _⟩ => steps_prefix m t S1 h1
theorem run_short {n : Nat} {zs : List (Int × Int × Int)} {hb se mo : Int} {S0 : FS} {t t' : Nat} {S S' : FS} (h : Steps n zs hb mo S0 t S) (e : RunEnd n se mo t S) (h' : Steps n zs hb mo S0 t' S') (e' : RunEnd n se mo t' S') (hlt : t < t') : False := by
  obtain ⟨m, rfl⟩ : ∃ m, t' = t + m + 1 := ⟨t' - t - 1, by omega⟩
  obtain ⟨S1, v, k, h1, h2, h3⟩ := steps_prefix m t S' h'
  obtain rfl := steps_det t S S1 h h1
  have hb' : (((t + m + 1 : Nat) : Int) = 0 ∨ ((t + m + 1 : Nat) : Int) ≤ se) := by
    rcases e' with ⟨_, q⟩ | ⟨_, q⟩ | ⟨_, _, _, _, q⟩
    · rcases q with q | q
      · omega
      · exact Or.inr q
    · rcases q with q | q
      · omega
      · exact Or.inr q
    · rcases q with q | q
      · omega
      · exact Or.inr q
  rcases e with ⟨q, _⟩ | ⟨q, _⟩ | ⟨v2, k2, q1, q2, _⟩
  · omega
  · have := q v h2.1
    rw [h2.2.1] at this
    cases this
  · obtain ⟨_, rfl⟩ := least_unique h2 q1
    omega
/-- however it is told, a bounded search from one beginning ends at one state. -/
theorem run_unique {n : Nat} {zs : List (Int × Int × Int)} {hb se mo : Int} {S0 : FS} {t t' : Nat} {S S' : FS} (h : Steps n zs hb mo S0 t S) (e : RunEnd n se mo t S) (h' : Steps n zs hb mo S0 t' S') (e' : RunEnd n se mo t' S') : t = t' ∧ S = S' := by
  rcases Nat.lt_trichotomy t t' with hlt | rfl | hlt
  · exact (run_short h e h' e' hlt).elim
  · exact ⟨rfl, steps_det t S S' h h'⟩
  · exact (run_short h' e' h e hlt).elim
/-- the open ones among the first i, and which of them is the least. -/
def opn (D : List Int) (Ha Se : List Bool) (u : Nat) (j : Int) : Prop := D[u]? = some j ∧ Ha[u]? = some true ∧ Se[u]? = some false
def LU (D : List Int) (Ha Se : List Bool) (i v : Nat) (k : Int) : Prop := v < i ∧ opn D Ha Se v k ∧ ∀ (u : Nat) (j : Int), u < i → opn D Ha Se u j → k < j ∨ (k = j ∧ v ≤ u)
def NU (D : List Int) (Ha Se : List Bool) (i : Nat) : Prop := ∀ (u : Nat) (j : Int), u < i → ¬ opn D Ha Se u j
/-- what take tells. -/
def Takes (D : List Int) (Ha Se : List Bool) (n : Nat) (r : Int) : Prop := (r = -1 ∧ NU D Ha Se n) ∨ ∃ (v : Nat) (k : Int), r = (v : Int) ∧ LU D Ha Se n v k
/-- the reference's lists tell what the finder knows. -/
structure RR (n : Nat) (S : FS) (D K : List Int) (Ha Se : List Bool) : Prop where
  lD : D.length = n
  lK : K.length = n
  lH : Ha.length = n
  lS : Se.length = n
  lv : S.vs.length = n
  some' : ∀ (v : Nat) (d : Int), S.vs[v]? = some (some d) → D[v]? = some d ∧ K[v]? = some (S.hs v) ∧ Ha[v]? = some true ∧ Se[v]? = some (S.f (v : Int)).isNone
  none' : ∀ (v : Nat), S.vs[v]? = some none → Ha[v]? = some false ∧ Se[v]? = some false
/-- what holds while the arcs of a settled node are looked at, as far as the reference asks. -/
structure LI (n v : Nat) (k h : Int) (S : FS) : Prop where
  lv : S.vs.length = n
  low : ∀ (u : Nat) (d : Int), S.vs[u]? = some (some d) → S.f (u : Int) = none → d ≤ k
  me : S.vs[v]? = some (some k) ∧ S.f (v : Int) = none ∧ S.hs v = h
theorem LI.start {n : Nat} {zs : List (Int × Int × Int)} {hb : Int} {s t : Nat} {S : FS} (hI : SInv n zs hb s t S) {v : Nat} {k : Int} (hL : Least n S.f v k) : LI n v k (S.hs v) (S.pop v) := by
  obtain ⟨hv, hf, hmin⟩ := hL
  have hme := hI.opn v k hv hf
  have hup : ∀ u : Nat, upd S.f v none (u : Int) = if u = v then none else S.f (u : Int) := fun u => by
    unfold upd
    by_cases e : u = v
    · rw [if_pos (by omega), if_pos e]
    · rw [if_neg (by omega), if_neg e]
  refine ⟨hI.lv, fun u d hd h => ?_, hme, by show upd S.f v none (v : Int) = none; rw [hup, if_pos rfl], rfl⟩
  have h' : upd S.f v none (u : Int) = none := h
  rw [hup] at h'
  have hd' : S.vs[u]? = some (some d) := hd
  by_cases e : u = v
  · subst e
    rw [hme] at hd'
    cases hd'
    exact Int.le_refl _
  · rw [if_neg e] at h'
    exact hI.mono u d v k hd' h' hv hf
theorem LI.next {n v : Nat} {k h : Int} {S : FS} (h0 : LI n v k h S) {a : Int × Int × Int} (hxv : a.2.1.toNat ≠ v) : LI n v k h (relax1 v k h S a) := by
  unfold relax1
  split
  · obtain ⟨x, hx⟩ : ∃ x, a.2.1.toNat = x := ⟨_, rfl⟩
    obtain ⟨d', hd'⟩ : ∃ d', k + a.2.2 = d' := ⟨_, rfl⟩
    rw [hx] at hxv ⊢
    rw [hd']
    refine ⟨by show (S.vs.set x (some d')).length = n; rw [List.length_set]; exact h0.lv, fun u d hd hf => ?_, ?_, ?_, ?_⟩
    · have hd2 : (S.vs.set x (some d'))[u]? = some (some d) := hd
      have hf2 : upd S.f (x : Int) (some d') (u : Int) = none := hf
      rcases set_get hd2 with ⟨e, _⟩ | ⟨hne, h2⟩
      · subst e
        simp [upd] at hf2
      · have : (u : Int) ≠ (x : Int) := by omega
        simp [upd, this] at hf2
        exact h0.low u d h2 hf2
    · show (S.vs.set x (some d'))[v]? = some (some k)
      rw [List.getElem?_set, if_neg hxv]
      exact h0.me.1
    · show upd S.f (x : Int) (some d') (v : Int) = none
      have : (v : Int) ≠ (x : Int) := by omega
      simp [upd, this]
      exact h0.me.2.1
    · show (if v = x then h + 1 else S.hs v) = h
      rw [if_neg (Ne.symm hxv)]
      exact h0.me.2.2
  · exact h0
end Go.Proofs.YtbkclhaonbjobaaGreat.Wt
