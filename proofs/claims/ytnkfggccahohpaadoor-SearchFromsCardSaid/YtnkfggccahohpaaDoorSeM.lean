/- What the search knows, step by step: labels are lengths of walks, what is settled stays, and at the end all is the least. -/
import Derived.Test.YtnkfggccahohpaaDoorSeF
namespace Go.Proofs.YtnkfggccahohpaaDoor

/-- a walk of so many steps, and its length. -/
def ReachN (zs : List (Int × Int × Int)) (s : Int) : Nat → Int → Int → Prop
  | 0, v, d => v = s ∧ d = 0
  | k + 1, v, d => ∃ u e r, ReachN zs s k u e ∧ (u, v, r) ∈ zs ∧ d = e + r
def Reach (zs : List (Int × Int × Int)) (s v d : Int) : Prop := ∃ k, ReachN zs s k v d

/-- a node is settled. -/
def FS.pop (S : FS) (v : Nat) : FS := { S with f := Hp.upd S.f v none }
def FS.step (zs : List (Int × Int × Int)) (hb : Int) (S : FS) (v : Nat) (k : Int) : FS := if S.hs v < hb then (arcRow zs (firstAt zs v) (firstAt zs (v + 1))).foldl (relax1 v k (S.hs v)) (S.pop v) else S.pop v
def Steps (n : Nat) (zs : List (Int × Int × Int)) (hb mo : Int) (S0 : FS) : Nat → FS → Prop
  | 0, S => S = S0
  | t + 1, S => ∃ S1 v k, Steps n zs hb mo S0 t S1 ∧ Hp.Least n S1.f v k ∧ k ≤ mo ∧ S = S1.step zs hb v k
/-- is a node settled? -/
def FS.fix (S : FS) (v : Nat) : Bool := (match S.vs[v]? with | some (some _) => true | _ => false) && (S.f (v : Int)).isNone
def FS.cnt (n : Nat) (S : FS) : Nat := (List.range n).countP (S.fix ·)
theorem FS.fix_iff {S : FS} {v : Nat} : S.fix v = true ↔ (∃ d, S.vs[v]? = some (some d)) ∧ S.f (v : Int) = none := by
  unfold FS.fix
  rw [Bool.and_eq_true, Option.isNone_iff_eq_none]
  constructor
  · rintro ⟨h1, h2⟩
    refine ⟨?_, h2⟩
    split at h1
    · rename_i d h; exact ⟨d, h⟩
    · cases h1
  · rintro ⟨⟨d, h1⟩, h2⟩
    exact ⟨by rw [h1], h2⟩

/-- what holds between two steps. -/
structure SInv (n : Nat) (zs : List (Int × Int × Int)) (hb : Int) (s t : Nat) (S : FS) : Prop where
  lv : S.vs.length = n
  opn : ∀ (v : Nat) (k : Int), v < n → S.f (v : Int) = some k → S.vs[v]? = some (some k)
  lab : ∀ (v : Nat) (d : Int), S.vs[v]? = some (some d) → 0 ≤ d ∧ d ≤ S.hs v * 2147483647 ∧ 0 ≤ S.hs v ∧ S.hs v ≤ (t : Int) ∧ Reach zs (s : Int) (v : Int) d
  src : S.vs[s]? = some (some 0)
  mono : ∀ (v : Nat) (d : Int) (u : Nat) (k : Int), S.vs[v]? = some (some d) → S.f (v : Int) = none → u < n → S.f (u : Int) = some k → d ≤ k
  done : ∀ (v : Nat) (d : Int), S.vs[v]? = some (some d) → S.f (v : Int) = none → S.hs v < hb → ∀ (u r : Int), ((v : Int), u, r) ∈ zs → ∃ e, S.vs[u.toNat]? = some (some e) ∧ e ≤ d + r
  cnt : S.cnt n = t
/-- what holds while a node's arcs are looked at. -/
structure MInv (n : Nat) (zs : List (Int × Int × Int)) (hb : Int) (s t : Nat) (v : Nat) (k h : Int) (l : List (Int × Int × Int)) (S : FS) : Prop where
  lv : S.vs.length = n
  opn : ∀ (u : Nat) (e : Int), u < n → S.f (u : Int) = some e → S.vs[u]? = some (some e) ∧ k ≤ e
  lab : ∀ (u : Nat) (d : Int), S.vs[u]? = some (some d) → 0 ≤ d ∧ d ≤ S.hs u * 2147483647 ∧ 0 ≤ S.hs u ∧ S.hs u ≤ (t : Int) + 1 ∧ Reach zs (s : Int) (u : Int) d
  src : S.vs[s]? = some (some 0)
  low : ∀ (u : Nat) (d : Int), S.vs[u]? = some (some d) → S.f (u : Int) = none → d ≤ k
  done : ∀ (u : Nat) (d : Int), u ≠ v → S.vs[u]? = some (some d) → S.f (u : Int) = none → S.hs u < hb → ∀ (y r : Int), ((u : Int), y, r) ∈ zs → ∃ e, S.vs[y.toNat]? = some (some e) ∧ e ≤ d + r
  me : S.vs[v]? = some (some k) ∧ S.f (v : Int) = none ∧ S.hs v = h
  seen : ∀ a ∈ l, ∃ e, S.vs[a.2.1.toNat]? = some (some e) ∧ e ≤ k + a.2.2
  cnt : S.cnt n = t + 1

theorem set_get {α : Type} {l : List α} {i j : Nat} {x y : α} (h : (l.set i x)[j]? = some y) : (j = i ∧ y = x) ∨ (j ≠ i ∧ l[j]? = some y) := by
  rw [List.getElem?_set] at h
  split at h
  · rename_i e
    subst e
    split at h
    · exact Or.inl ⟨rfl, (Option.some.inj h).symm⟩
    · cases h
  · rename_i e
    exact Or.inr ⟨fun e' => e e'.symm, h⟩

theorem MInv.next {n : Nat} {zs : List (Int × Int × Int)} {hb : Int} {s t v : Nat} {k h : Int} {l : List (Int × Int × Int)} {S : FS} (hz : Fine n zs) (hI : MInv n zs hb s t v k h l S) (hh : 0 ≤ h) (hh2 : h ≤ (t : Int)) (hk : 0 ≤ k) (hkh : k ≤ h * 2147483647) {a : Int × Int × Int} (ha : a ∈ zs) (hav : a.1 = (v : Int)) : MInv n zs hb s t v k h (l ++ [a]) (relax1 v k h S a) := by
  have he := hz.ends a ha
  obtain ⟨x, hx⟩ : ∃ x : Nat, a.2.1 = (x : Int) := ⟨a.2.1.toNat, by omega⟩
  obtain ⟨r, hr⟩ : ∃ r, a.2.2 = r := ⟨_, rfl⟩
  have hxn : x < n := by omega
  have hxv : x ≠ v := by omega
  have r0 : 0 ≤ r := by omega
  have r1 : r ≤ 2147483647 := by omega
  have hax : ((v : Int), (x : Int), r) ∈ zs := by
    have : a = ((v : Int), (x : Int), r) := by rw [← hav, ← hx, ← hr]
    rw [← this]; exact ha
  have hRv := (hI.lab v k hI.me.1).2.2.2.2
  have hRx : Reach zs (s : Int) (x : Int) (k + r) := by
    obtain ⟨m, hm⟩ := hRv
    exact ⟨m + 1, (v : Int), k, r, hm, hax, rfl⟩
  unfold relax1
  rw [hx, hr, Int.toNat_natCast]
  have hxl : x < S.vs.length := by rw [hI.lv]; exact hxn
  by_cases hb' : S.better x (k + r) = true
  · rw [if_pos hb']
    -- what was known there
    have hopen : ∀ d, S.vs[x]? = some (some d) → k + r < d ∧ S.f (x : Int) ≠ none := fun d hd => by
      have hlt : k + r < d := by
        unfold FS.better at hb'
        rw [hd] at hb'
        simpa using hb'
      exact ⟨hlt, fun e => by have := hI.low x d hd e; omega⟩
    have hsx : (S.vs.set x (some (k + r)))[x]? = some (some (k + r)) := by rw [List.getElem?_set]; simp [hxl]
    have hso : ∀ u, u ≠ x → (S.vs.set x (some (k + r)))[u]? = S.vs[u]? := fun u hu => by rw [List.getElem?_set, if_neg (fun e => hu e.symm)]
    have hfx : ∀ u : Nat, Hp.upd S.f x (some (k + r)) (u : Int) = if u = x then some (k + r) else S.f (u : Int) := fun u => by
      unfold Hp.upd
      by_cases e : u = x
      · rw [if_pos (by omega), if_pos e]
      · rw [if_neg (by omega), if_neg e]
    have hfo : ∀ u : Nat, Hp.upd S.f x (some (k + r)) (u : Int) = none → u ≠ x ∧ S.f (u : Int) = none := fun u h => by
      rw [hfx] at h
      split at h
      · cases h
      · rename_i e; exact ⟨e, h⟩
    have hlow : ∀ (y : Nat) (e : Int), S.vs[y]? = some (some e) → ∃ e', (S.vs.set x (some (k + r)))[y]? = some (some e') ∧ e' ≤ e := fun y e hy => by
      by_cases hyx : y = x
      · subst hyx
        exact ⟨k + r, hsx, by have := (hopen e hy).1; omega⟩
      · exact ⟨e, by rw [hso y hyx]; exact hy, Int.le_refl _⟩
    refine ⟨by show (S.vs.set x (some (k + r))).length = n; rw [List.length_set]; exact hI.lv, fun u e hu hf => ?_, fun u d hd => ?_, ?_, fun u d hd hf => ?_, fun u d huv hd hf hhs y r' hm => ?_, ⟨by show (S.vs.set x (some (k + r)))[v]? = _; rw [hso v (Ne.symm hxv)]; exact hI.me.1, by show Hp.upd S.f x (some (k + r)) (v : Int) = none; rw [hfx, if_neg (Ne.symm hxv)]; exact hI.me.2.1, by show (if v = x then h + 1 else S.hs v) = h; rw [if_neg (Ne.symm hxv)]; exact hI.me.2.2⟩, fun b hbm => ?_, ?_⟩
    · have hf' : Hp.upd S.f x (some (k + r)) (u : Int) = some e := hf
      rw [hfx] at hf'
      split at hf'
      · rename_i e'
        subst e'
        cases hf'
        exact ⟨hsx, by omega⟩
      · rename_i e'
        exact ⟨by show (S.vs.set x (some (k + r)))[u]? = _; rw [hso u e']; exact (hI.opn u e hu hf').1, (hI.opn u e hu hf').2⟩
    · have hd' : (S.vs.set x (some (k + r)))[u]? = some (some d) := hd
      show 0 ≤ d ∧ d ≤ (if u = x then h + 1 else S.hs u) * 2147483647 ∧ 0 ≤ (if u = x then h + 1 else S.hs u) ∧ (if u = x then h + 1 else S.hs u) ≤ (t : Int) + 1 ∧ Reach zs (s : Int) (u : Int) d
      rcases set_get hd' with ⟨rfl, e⟩ | ⟨e, hd2⟩
      · cases e
        rw [if_pos rfl]
        exact ⟨by omega, by omega, by omega, by omega, hRx⟩
      · rw [if_neg e]
        exact hI.lab u d hd2
    · show (S.vs.set x (some (k + r)))[s]? = some (some 0)
      by_cases e : s = x
      · subst e
        have := (hopen 0 hI.src).1
        omega
      · rw [hso s e]; exact hI.src
    · obtain ⟨e, hf'⟩ := hfo u hf
      have hd' : (S.vs.set x (some (k + r)))[u]? = some (some d) := hd
      rw [hso u e] at hd'
      exact hI.low u d hd' hf'
    · obtain ⟨e, hf'⟩ := hfo u hf
      have hd' : (S.vs.set x (some (k + r)))[u]? = some (some d) := hd
      rw [hso u e] at hd'
      have hhs' : (if u = x then h + 1 else S.hs u) < hb := hhs
      rw [if_neg e] at hhs'
      obtain ⟨e1, g1, g2⟩ := hI.done u d huv hd' hf' hhs' y r' hm
      obtain ⟨e2, g3, g4⟩ := hlow _ e1 g1
      exact ⟨e2, g3, by omega⟩
    · rcases List.mem_append.1 hbm with hbm | hbm
      · obtain ⟨e1, g1, g2⟩ := hI.seen b hbm
        obtain ⟨e2, g3, g4⟩ := hlow _ e1 g1
        exact ⟨e2, g3, by omega⟩
      · simp at hbm
        subst hbm
        rw [hx, Int.toNat_natCast, hr]
        exact ⟨k + r, hsx, Int.le_refl _⟩
    · rw [← hI.cnt]
      unfold FS.cnt
      refine List.countP_congr fun u hu => ?_
      have hun := List.mem_range.1 hu
      rw [FS.fix_iff, FS.fix_iff]
      show (∃ d, (S.vs.set x (some (k + r)))[u]? = some (some d)) ∧ Hp.upd S.f x (some (k + r)) (u : Int) = none ↔ _
      constructor
      · rintro ⟨⟨d, hd⟩, hf⟩
        obtain ⟨e, hf'⟩ := hfo u hf
        rw [hso u e] at hd
        exact ⟨⟨d, hd⟩, hf'⟩
      · rintro ⟨⟨d, hd⟩, hf⟩
        have e : u ≠ x := fun e => by subst e; exact (hopen d hd).2 hf
        exact ⟨⟨d, by rw [hso u e]; exact hd⟩, by rw [hfx, if_neg e]; exact hf⟩
  · rw [if_neg hb']
    refine ⟨hI.lv, hI.opn, hI.lab, hI.src, hI.low, hI.done, hI.me, fun b hbm => ?_, hI.cnt⟩
    rcases List.mem_append.1 hbm with hbm | hbm
    · exact hI.seen b hbm
    · simp at hbm
      subst hbm
      rw [hx, Int.toNat_natCast, hr]
      obtain ⟨o, ho⟩ : ∃ o, S.vs[x]? = some o := ⟨S.vs[x], List.getElem?_eq_getElem hxl⟩
      unfold FS.better at hb'
      rw [ho] at hb'
      cases o with
      | none => simp at hb'
      | some e => exact ⟨e, ho, by simpa using hb'⟩
theorem MInv.all {n : Nat} {zs : List (Int × Int × Int)} {hb : Int} {s t v : Nat} {k h : Int} (hz : Fine n zs) (hh : 0 ≤ h) (hh2 : h ≤ (t : Int)) (hk : 0 ≤ k) (hkh : k ≤ h * 2147483647) : ∀ (m l : List (Int × Int × Int)) (S : FS), MInv n zs hb s t v k h l S → (∀ a ∈ m, a ∈ zs ∧ a.1 = (v : Int)) → MInv n zs hb s t v k h (l ++ m) (m.foldl (relax1 v k h) S)
  | [], l, S, hI, _ => by simpa using hI
  | a :: m, l, S, hI, hm => by
    have h1 := hI.next hz hh hh2 hk hkh (hm a (by simp)).1 (hm a (by simp)).2
    have h2 := MInv.all hz hh hh2 hk hkh m (l ++ [a]) _ h1 (fun b hb => hm b (by simp [hb]))
    rw [List.append_assoc] at h2
    exact h2
theorem Fine.arcRow_mem {n : Nat} {zs : List (Int × Int × Int)} (hz : Fine n zs) (v : Nat) (a : Int × Int × Int) : a ∈ arcRow zs (firstAt zs v) (firstAt zs (v + 1)) ↔ a ∈ zs ∧ a.1 = (v : Int) := by
  have hl := firstAt_le zs (v + 1)
  constructor
  · intro h
    obtain ⟨j, hj⟩ := List.getElem?_of_mem h
    unfold arcRow at hj
    rw [List.getElem?_drop, List.getElem?_take] at hj
    split at hj
    · exact ⟨List.mem_of_getElem? hj, hz.row hj (by omega) (by omega)⟩
    · cases hj
  · rintro ⟨h, hv⟩
    obtain ⟨i, hi⟩ := List.getElem?_of_mem h
    have g1 := firstAt_lt hz.rise hi v
    have g2 := firstAt_lt hz.rise hi (v + 1)
    have h1 : firstAt zs v ≤ i := by
      rcases Nat.lt_or_ge i (firstAt zs v) with h' | h'
      · have := g1.1 h'; omega
      · exact h'
    have h2 : i < firstAt zs (v + 1) := g2.2 (by omega)
    refine List.mem_of_getElem? (i := i - firstAt zs v) ?_
    unfold arcRow
    rw [List.getElem?_drop, List.getElem?_take, if_pos (by omega), show firstAt zs v + (i - firstAt zs v) = i by omega]
    exact hi
theorem SInv.lt {n : Nat} {zs : List (Int × Int × Int)} {hb : Int} {s t : Nat} {S : FS} (hI : SInv n zs hb s t S) {v : Nat} {k : Int} (hL : Hp.Least n S.f v k) : t < n := by
  have h1 := hI.cnt
  unfold FS.cnt at h1
  have h2 : (List.range n).countP (S.fix ·) < (List.range n).length := by
    rcases Nat.lt_or_ge ((List.range n).countP (S.fix ·)) (List.range n).length with h | h
    · exact h
    · have h3 := List.countP_eq_length.1 (Nat.le_antisymm List.countP_le_length h) v (List.mem_range.2 hL.1)
      have := (FS.fix_iff.1 h3).2
      rw [hL.2.1] at this
      cases this
  rw [List.length_range] at h2
  omega
theorem SInv.step {n : Nat} {zs : List (Int × Int × Int)} {hb : Int} {s t : Nat} {S : FS} (hz : Fine n zs) (hI : SInv n zs hb s t S) {v : Nat} {k : Int} (hL : Hp.Least n S.f v k) : SInv n zs hb s (t + 1) (S.step zs hb v k) := by
  obtain ⟨hv, hf, hmin⟩ := hL
  have hme := hI.opn v k hv hf
  obtain ⟨l1, l2, l3, l4, l5⟩ := hI.lab v k hme
  have hup : ∀ u : Nat, Hp.upd S.f v none (u : Int) = if u = v then none else S.f (u : Int) := fun u => by
    unfold Hp.upd
    by_cases e : u = v
    · rw [if_pos (by omega), if_pos e]
    · rw [if_neg (by omega), if_neg e]
  have hleast : ∀ (u : Nat) (e : Int), u < n → S.f (u : Int) = some e → k ≤ e := fun u e hu he => by
    have := hmin u e hu he
    unfold Hp.ltT at this
    simp only at this
    omega
  have hcnt : (S.pop v).cnt n = t + 1 := by
    rw [← hI.cnt]
    unfold FS.cnt
    have hsplit : ∀ (l : List Nat), l.Nodup → v ∈ l → l.countP ((S.pop v).fix ·) = l.countP (S.fix ·) + 1 := by
      intro l
      induction l with
      | nil => intro _ h; cases h
      | cons b m ih =>
        intro hn hm
        obtain ⟨hb1, hb2⟩ := List.nodup_cons.1 hn
        have hsame : ∀ u, u ≠ v → (S.pop v).fix u = S.fix u := fun u hu => by
          rw [Bool.eq_iff_iff, FS.fix_iff, FS.fix_iff]
          show _ ∧ Hp.upd S.f v none (u : Int) = none ↔ _
          rw [hup, if_neg hu]
          exact Iff.rfl
        by_cases e : b = v
        · subst e
          have hc : m.countP ((S.pop b).fix ·) = m.countP (S.fix ·) := List.countP_congr fun u hu => by rw [hsame u (fun e => hb1 (e ▸ hu))]
          have p1 : (S.pop b).fix b = true := FS.fix_iff.2 ⟨⟨k, hme⟩, by show Hp.upd S.f b none (b : Int) = none; rw [hup, if_pos rfl]⟩
          have p2 : ¬ S.fix b = true := fun h => by rw [FS.fix_iff, hf] at h; cases h.2
          rw [List.countP_cons_of_pos p1, List.countP_cons_of_neg p2, hc]
        · have hm' : v ∈ m := by
            rcases List.mem_cons.1 hm with h | h
            · exact absurd h.symm e
            · exact h
          have := ih hb2 hm'
          by_cases p : S.fix b = true
          · rw [List.countP_cons_of_pos (by rw [hsame b e]; exact p), List.countP_cons_of_pos p, this]
          · rw [List.countP_cons_of_neg (by rw [hsame b e]; exact p), List.countP_cons_of_neg p, this]
    exact hsplit _ List.nodup_range (List.mem_range.2 hv)
  have hM : MInv n zs hb s t v k (S.hs v) [] (S.pop v) := by
    refine ⟨hI.lv, fun u e hu h => ?_, fun u d hd => ?_, hI.src, fun u d hd h => ?_, fun u d huv hd h hhs => ?_, ⟨hme, by show Hp.upd S.f v none (v : Int) = none; rw [hup, if_pos rfl], rfl⟩, (fun a ha => by cases ha), hcnt⟩
    · have h' : Hp.upd S.f v none (u : Int) = some e := h
      rw [hup] at h'
      split at h'
      · cases h'
      · exact ⟨hI.opn u e hu h', hleast u e hu h'⟩
    · obtain ⟨a1, a2, a3, a4, a5⟩ := hI.lab u d hd
      exact ⟨a1, a2, a3, by show S.hs u ≤ (t : Int) + 1; omega, a5⟩
    · have h' : Hp.upd S.f v none (u : Int) = none := h
      rw [hup] at h'
      have hd' : S.vs[u]? = some (some d) := hd
      by_cases e : u = v
      · subst e
        rw [hme] at hd'
        cases hd'
        exact Int.le_refl _
      · rw [if_neg e] at h'
        exact hI.mono u d v k hd' h' hv hf
    · have h' : Hp.upd S.f v none (u : Int) = none := h
      rw [hup, if_neg huv] at h'
      exact hI.done u d hd h' hhs
  have fin : ∀ (S' : FS), MInv n zs hb s t v k (S.hs v) (if S.hs v < hb then arcRow zs (firstAt zs v) (firstAt zs (v + 1)) else []) S' → SInv n zs hb s (t + 1) S' := fun S' h => by
    refine ⟨h.lv, fun u e hu he => (h.opn u e hu he).1, fun u d hd => ?_, h.src, fun u d x e hd hf hx he => Int.le_trans (h.low u d hd hf) (h.opn x e hx he).2, fun u d hd hf hhs y r hm => ?_, h.cnt⟩
    · obtain ⟨a1, a2, a3, a4, a5⟩ := h.lab u d hd
      exact ⟨a1, a2, a3, by omega, a5⟩
    · by_cases e : u = v
      · subst e
        rw [h.me.1] at hd
        cases hd
        rw [h.me.2.2] at hhs
        have := h.seen ((u : Int), y, r) (by rw [if_pos hhs]; exact (hz.arcRow_mem u _).2 ⟨hm, rfl⟩)
        exact this
      · exact h.done u d e hd hf hhs y r hm
  unfold FS.step
  split
  · rename_i hlt
    have := MInv.all hz l3 l4 l1 l2 (arcRow zs (firstAt zs v) (firstAt zs (v + 1))) [] _ hM (fun a ha => (hz.arcRow_mem v a).1 ha)
    refine fin _ ?_
    rw [if_pos hlt]
    simpa using this
  · rename_i hlt
    refine fin _ ?_
    rw [if_neg hlt]
    exact hM
theorem steps_inv {n : Nat} {zs : List (Int × Int × Int)} {hb mo : Int} {s : Nat} {S0 : FS} (hz : Fine n zs) (h0 : SInv n zs hb s 0 S0) : ∀ (t : Nat) (S : FS), Steps n zs hb mo S0 t S → SInv n zs hb s t S
  | 0, S, h => by cases h; exact h0
  | t + 1, S, h => by
    obtain ⟨S1, v, k, h1, h2, _, rfl⟩ := h
    exact (steps_inv hz h0 t S1 h1).step hz h2
/-- the beginning. -/
theorem start_inv {n : Nat} {zs : List (Int × Int × Int)} {hb : Int} {s : Nat} (hs : s < n) (S : FS) (hv : S.vs = List.replicate n none) (hfz : S.f = fun _ => none) : SInv n zs hb s 0 (S.lab s 0 0 s) := by
  have hl : S.vs.length = n := by rw [hv, List.length_replicate]
  have hnone : ∀ (u : Nat) (d : Int), S.vs[u]? ≠ some (some d) := fun u d h => by
    rw [hv, List.getElem?_replicate] at h
    split at h
    · cases h
    · cases h
  have hss : (S.vs.set s (some (0 : Int)))[s]? = some (some 0) := by rw [List.getElem?_set]; simp [hl, hs]
  have hfx : ∀ u : Nat, Hp.upd S.f s (some 0) (u : Int) = if u = s then some 0 else none := fun u => by
    unfold Hp.upd
    by_cases e : u = s
    · rw [if_pos (by omega), if_pos e]
    · rw [if_neg (by omega), if_neg e, hfz]
  have hone : ∀ (u : Nat) (d : Int), (S.vs.set s (some (0 : Int)))[u]? = some (some d) → u = s ∧ d = 0 := fun u d h => by
    rcases set_get h with ⟨e, e2⟩ | ⟨_, h2⟩
    · cases e2; exact ⟨e, rfl⟩
    · exact absurd h2 (hnone u d)
  refine ⟨by show (S.vs.set s (some (0 : Int))).length = n; rw [List.length_set]; exact hl, fun u k hu h => ?_, fun u d hd => ?_, hss, fun u d x k hd h hx hk => ?_, fun u d hd h => ?_, ?_⟩
  · have h' : Hp.upd S.f s (some 0) (u : Int) = some k := h
    rw [hfx] at h'
    split at h'
    · rename_i e; subst e; cases h'; exact hss
    · cases h'
  · obtain ⟨rfl, rfl⟩ := hone u d hd
    show _ ∧ _ ≤ (if u = u then (0 : Int) else S.hs u) * 2147483647 ∧ 0 ≤ (if u = u then (0 : Int) else S.hs u) ∧ (if u = u then (0 : Int) else S.hs u) ≤ ((0 : Nat) : Int) ∧ _
    rw [if_pos rfl]
    exact ⟨by omega, by omega, by omega, by omega, 0, rfl, rfl⟩
  · obtain ⟨rfl, rfl⟩ := hone u d hd
    have h' : Hp.upd S.f u (some 0) (u : Int) = none := h
    rw [hfx, if_pos rfl] at h'
    cases h'
  · obtain ⟨rfl, rfl⟩ := hone u d hd
    have h' : Hp.upd S.f u (some 0) (u : Int) = none := h
    rw [hfx, if_pos rfl] at h'
    cases h'
  · unfold FS.cnt
    rw [List.countP_eq_zero]
    intro u hu hfx'
    rw [FS.fix_iff] at hfx'
    obtain ⟨⟨d, hd⟩, h⟩ := hfx'
    obtain ⟨rfl, _⟩ := hone u d hd
    have h' : Hp.upd S.f u (some 0) (u : Int) = none := h
    rw [hfx, if_pos rfl] at h'
    cases h'

/-- the distances from a node. -/
def IsDist (n : Nat) (zs : List (Int × Int × Int)) (s : Nat) (D : List Int) : Prop := D.length = n ∧ ∀ v : Nat, v < n → ∃ x, D[v]? = some x ∧ ((0 ≤ x ∧ x ≤ 140737488355328 ∧ Reach zs (s : Int) (v : Int) x ∧ ∀ e, Reach zs (s : Int) (v : Int) e → x ≤ e) ∨ (x = 18446744073709551615 ∧ ∀ e, ¬ Reach zs (s : Int) (v : Int) e))
theorem IsDist.unique {n : Nat} {zs : List (Int × Int × Int)} {s : Nat} {D E : List Int} (h : IsDist n zs s D) (k : IsDist n zs s E) : D = E := by
  apply List.ext_getElem?
  intro v
  rcases Nat.lt_or_ge v n with hv | hv
  · obtain ⟨x, hx, h1⟩ := h.2 v hv
    obtain ⟨y, hy, h2⟩ := k.2 v hv
    rw [hx, hy]
    congr 1
    rcases h1 with ⟨_, _, r1, m1⟩ | ⟨rfl, n1⟩ <;> rcases h2 with ⟨_, _, r2, m2⟩ | ⟨rfl, n2⟩
    · have := m1 y r2
      have := m2 x r1
      omega
    · exact absurd r1 (n2 _)
    · exact absurd r2 (n1 _)
    · rfl
  · rw [List.getElem?_eq_none (by rw [h.1]; exact hv), List.getElem?_eq_none (by rw [k.1]; exact hv)]
/-- what is told of a node. -/
def farOr (o : Option (Option Int)) : Int := match o with
  | some (some d) => d
  | _ => 18446744073709551615
theorem SInv.dist {n : Nat} {zs : List (Int × Int × Int)} {hb : Int} {s t : Nat} {S : FS} (hz : Fine n zs) (hI : SInv n zs hb s t S) (ht : t ≤ n) (hbig : (n : Int) < hb) (hno : ∀ d : Nat, d < n → S.f (d : Int) = none) : IsDist n zs s ((List.range n).map fun v => farOr S.vs[v]?) := by
  have hn := hz.few
  have hlen : ∀ (v : Nat) (d : Int), S.vs[v]? = some (some d) → v < n := fun v d h => by
    have := (List.getElem?_eq_some_iff.1 h).1
    rw [hI.lv] at this
    exact this
  have hle : ∀ (m : Nat) (v d : Int), ReachN zs (s : Int) m v d → 0 ≤ v ∧ ∃ e, S.vs[v.toNat]? = some (some e) ∧ e ≤ d := by
    intro m
    induction m with
    | zero =>
      rintro v d ⟨rfl, rfl⟩
      exact ⟨by omega, 0, by rw [Int.toNat_natCast]; exact hI.src, Int.le_refl _⟩
    | succ m ih =>
      rintro v d ⟨u, e, r, h1, h2, rfl⟩
      obtain ⟨hu, e', h3, h4⟩ := ih u e h1
      have hul := hlen _ _ h3
      have hb' := (hI.lab _ _ h3).2.2.2.1
      have hmem : ((u.toNat : Int), v, r) ∈ zs := by rw [show (u.toNat : Int) = u by omega]; exact h2
      have hends := hz.ends _ h2
      obtain ⟨f, h5, h6⟩ := hI.done u.toNat e' h3 (hno _ hul) (by omega) v r hmem
      simp only at hends
      exact ⟨by omega, f, h5, by omega⟩
  refine ⟨by simp, fun v hv => ⟨farOr S.vs[v]?, by rw [List.getElem?_map, List.getElem?_range hv]; rfl, ?_⟩⟩
  obtain ⟨o, ho⟩ : ∃ o, S.vs[v]? = some o := ⟨S.vs[v]'(by rw [hI.lv]; exact hv), List.getElem?_eq_getElem _⟩
  rw [ho]
  cases o with
  | none =>
    refine Or.inr ⟨rfl, fun e ⟨m, hm⟩ => ?_⟩
    obtain ⟨_, e', h, _⟩ := hle m v e hm
    rw [Int.toNat_natCast, ho] at h
    cases h
  | some d =>
    obtain ⟨a1, a2, a3, a4, a5⟩ := hI.lab v d ho
    refine Or.inl ⟨a1, ?_, a5, fun e ⟨m, hm⟩ => ?_⟩
    · have : S.hs v ≤ 65536 := by omega
      show d ≤ 140737488355328
      omega
    · obtain ⟨_, e', h, h2⟩ := hle m v e hm
      rw [Int.toNat_natCast, ho] at h
      cases h
      exact h2
end Go.Proofs.YtnkfggccahohpaaDoor
