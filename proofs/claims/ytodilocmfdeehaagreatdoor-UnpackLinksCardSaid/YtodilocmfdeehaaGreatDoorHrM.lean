/- What a hierarchy's check tells: plain mathematics. -/
namespace Go.Proofs.YtodilocmfdeehaaGreatDoor.Hi

/-- a link: its other end, its weight, its two children. -/
structure Lk where
  hd : Nat
  wt : Nat
  lf : Nat
  rt : Nat
  deriving DecidableEq, Inhabited
/-- a link with where it stands. -/
structure Sd where
  lk : Lk
  rk : Nat
  up : Bool
  deriving DecidableEq, Inhabited
/-- a hierarchy. -/
structure Hr where
  node : List Nat
  upF : List Nat
  up : List Lk
  dnF : List Nat
  dn : List Lk
  deriving DecidableEq, Inhabited

def nth (F : List Nat) (i : Nat) : Nat := F.getD i 0
def sd (all : List Sd) (i : Nat) : Sd := all.getD i default
theorem nth_of {F : List Nat} {i x : Nat} (h : F[i]? = some x) : nth F i = x := by unfold nth; rw [List.getD_eq_getElem?_getD, h]; rfl
theorem nth_get {F : List Nat} {i : Nat} (h : i < F.length) : F[i]? = some (nth F i) := by rw [List.getElem?_eq_getElem h]; congr 1; unfold nth; rw [List.getD_eq_getElem?_getD, List.getElem?_eq_getElem h]; rfl
theorem sd_of {all : List Sd} {i : Nat} {x : Sd} (h : all[i]? = some x) : sd all i = x := by unfold sd; rw [List.getD_eq_getElem?_getD, h]; rfl
theorem sd_get {all : List Sd} {i : Nat} (h : i < all.length) : all[i]? = some (sd all i) := by rw [List.getElem?_eq_getElem h]; congr 1; unfold sd; rw [List.getD_eq_getElem?_getD, List.getElem?_eq_getElem h]; rfl

def noLink : Nat := 4294967295
def Lk.plain (l : Lk) : Bool := l.lf == noLink && l.rt == noLink
def Lk.ok (l : Lk) : Prop := l.hd < 4294967296 ∧ l.wt < 18446744073709551616 ∧ l.lf < 4294967296 ∧ l.rt < 4294967296
def Sd.tail (s : Sd) : Nat := if s.up then s.rk else s.lk.hd
def Sd.head (s : Sd) : Nat := if s.up then s.lk.hd else s.rk

/-- the first k from k0 on at which f tells an error, with its place. -/
def ferr (p : Int) (f : Nat → Int) : Nat → Nat → Int × List (Int × Int)
  | _, 0 => (0, [])
  | k, m + 1 => if f k = 0 then ferr p f (k + 1) m else (f k, [(p, (k : Int))])
theorem ferr_step {p : Int} {f : Nat → Int} {k n : Nat} (h : k < n) (hf : f k = 0) : ferr p f k (n - k) = ferr p f (k + 1) (n - (k + 1)) := by
  rw [show n - k = n - (k + 1) + 1 by omega]
  simp [ferr, hf]
theorem ferr_hit {p : Int} {f : Nat → Int} {k n : Nat} (h : k < n) (hf : f k ≠ 0) : ferr p f k (n - k) = (f k, [(p, (k : Int))]) := by
  rw [show n - k = n - (k + 1) + 1 by omega]
  simp [ferr, hf]
theorem ferr_end {p : Int} {f : Nat → Int} (n : Nat) : ferr p f n (n - n) = (0, []) := by simp [ferr]
theorem ferr_ok {p : Int} {f : Nat → Int} : ∀ (m k : Nat), ferr p f k m = (0, []) ↔ ∀ j, k ≤ j → j < k + m → f j = 0
  | 0, k => by simp only [ferr, true_iff]; intro j h1 h2; omega
  | m + 1, k => by
    simp only [ferr]
    by_cases h : f k = 0
    · rw [if_pos h, ferr_ok m (k + 1)]
      constructor
      · intro g j h1 h2
        rcases Nat.lt_or_eq_of_le h1 with h3 | h3
        · exact g j (by omega) (by omega)
        · exact h3 ▸ h
      · intro g j h1 h2
        exact g j (by omega) (by omega)
    · rw [if_neg h]
      constructor
      · intro g; simp at g
      · intro g; exact absurd (g k (Nat.le_refl _) (by omega)) h
/-- an error, or what comes behind it. -/
def orE (a b : Int × List (Int × Int)) : Int × List (Int × Int) := if a = (0, []) then b else a
theorem orE_ok {a b : Int × List (Int × Int)} : orE a b = (0, []) ↔ a = (0, []) ∧ b = (0, []) := by
  unfold orE
  by_cases h : a = (0, [])
  · simp [h]
  · simp [h]

/-- the error of the numbers by which m links are cut. -/
def cfF (F : List Nat) (r : Nat) : Int := if nth F (r + 1) < nth F r then 14 else 0
def cf (F : List Nat) (m : Nat) : Int × List (Int × Int) :=
  if nth F 0 ≠ 0 then (14, []) else orE (ferr 3 (cfF F) 0 (F.length - 1)) (if nth F (F.length - 1) ≠ m then (14, []) else (0, []))
/-- the error of the nodes. -/
def cnF (N : List Nat) (r : Nat) : Int := if N.length ≤ nth N r ∨ nth N r ∈ N.take r then 20 else 0
def cn (N : List Nat) : Int × List (Int × Int) := ferr 3 (cnF N) 0 N.length

/-- the links of a rank, each with it. -/
def rowOf (F : List Nat) (L : List Lk) (r : Nat) : List (Nat × Lk) := ((L.drop (nth F r)).take (nth F (r + 1) - nth F r)).map (Prod.mk r)
def rkUpto (F : List Nat) (L : List Lk) (r : Nat) : List (Nat × Lk) := (List.range r).flatMap (rowOf F L)
def rkL (F : List Nat) (L : List Lk) : List (Nat × Lk) := rkUpto F L (F.length - 1)
theorem rkUpto_succ (F : List Nat) (L : List Lk) (r : Nat) : rkUpto F L (r + 1) = rkUpto F L r ++ rowOf F L r := by simp [rkUpto, List.range_succ]
def upS (x : Nat × Lk) : Sd := ⟨x.2, x.1, true⟩
def dnS (x : Nat × Lk) : Sd := ⟨x.2, x.1, false⟩
/-- all links in the order of their numbers. -/
def stds (h : Hr) : List Sd := (rkL h.upF h.up).map upS ++ (rkL h.dnF h.dn).map dnS

/-- the numbers by which m links are cut are right. -/
structure FOk (F : List Nat) (m : Nat) : Prop where
  len : 1 ≤ F.length
  zero : nth F 0 = 0
  le : ∀ r, r + 1 < F.length → nth F r ≤ nth F (r + 1)
  top : nth F (F.length - 1) = m
theorem FOk.mono {F : List Nat} {m : Nat} (h : FOk F m) {a b : Nat} (hab : a ≤ b) (hb : b < F.length) : nth F a ≤ nth F b := by
  induction b with
  | zero => obtain rfl : a = 0 := by omega
            exact Nat.le_refl _
  | succ b ih =>
    rcases Nat.lt_or_eq_of_le hab with h1 | h1
    · exact Nat.le_trans (ih (by omega) (by omega)) (h.le b hb)
    · subst h1; exact Nat.le_refl _
theorem FOk.atmost {F : List Nat} {m : Nat} (h : FOk F m) {a : Nat} (ha : a < F.length) : nth F a ≤ m := by
  have := h.mono (show a ≤ F.length - 1 by omega) (by have := h.len; omega)
  rw [h.top] at this
  exact this
theorem cf_ok {F : List Nat} {m : Nat} (hl : 1 ≤ F.length) : cf F m = (0, []) ↔ FOk F m := by
  unfold cf
  by_cases h0 : nth F 0 = 0
  · rw [if_neg (by simp [h0]), orE_ok, ferr_ok]
    constructor
    · rintro ⟨h1, h2⟩
      refine ⟨hl, h0, fun r hr => ?_, ?_⟩
      · have := h1 r (Nat.zero_le _) (by omega)
        unfold cfF at this
        split at this
        · simp at this
        · omega
      · by_cases h3 : nth F (F.length - 1) = m
        · exact h3
        · simp [h3] at h2
    · intro h
      refine ⟨fun j _ hj => ?_, by simp only [ne_eq]; rw [if_neg (by simp [h.top])]⟩
      have := h.le j (by omega)
      unfold cfF
      rw [if_neg (by omega)]
  · rw [if_pos h0]
    constructor
    · intro h; simp at h
    · intro h; exact absurd h.zero h0
theorem rowOf_len {F : List Nat} {L : List Lk} (h : FOk F L.length) {r : Nat} (hr : r + 1 < F.length) : (rowOf F L r).length = nth F (r + 1) - nth F r := by
  have h1 := h.atmost (a := r + 1) hr
  simp only [rowOf, List.length_map, List.length_take, List.length_drop]
  omega
theorem rkUpto_len {F : List Nat} {L : List Lk} (h : FOk F L.length) : ∀ (r : Nat), r < F.length → (rkUpto F L r).length = nth F r
  | 0, _ => by simp [rkUpto, h.zero]
  | r + 1, hr => by
    rw [rkUpto_succ, List.length_append, rkUpto_len h r (by omega), rowOf_len h hr]
    have := h.le r hr
    omega
theorem rkL_len {F : List Nat} {L : List Lk} (h : FOk F L.length) : (rkL F L).length = L.length := by
  have := h.len
  rw [rkL, rkUpto_len h _ (by omega), h.top]
theorem rowOf_get {F : List Nat} {L : List Lk} {r j : Nat} (hj : nth F r + j < nth F (r + 1)) : (rowOf F L r)[j]? = (L[nth F r + j]?).map (Prod.mk r) := by
  simp only [rowOf, List.getElem?_map, List.getElem?_take, List.getElem?_drop]
  rw [if_pos (by omega)]
theorem rkUpto_le (F : List Nat) (L : List Lk) {a b : Nat} (h : a ≤ b) : ∃ t, rkUpto F L b = rkUpto F L a ++ t := by
  induction b with
  | zero => obtain rfl : a = 0 := by omega
            exact ⟨[], by simp⟩
  | succ b ih =>
    rcases Nat.lt_or_eq_of_le h with h1 | h1
    · obtain ⟨t, ht⟩ := ih (by omega)
      exact ⟨t ++ rowOf F L b, by rw [rkUpto_succ, ht, List.append_assoc]⟩
    · subst h1; exact ⟨[], by simp⟩
/-- what has come when r ranks and j links more are through, with one more. -/
theorem rk_prefix {F : List Nat} {L : List Lk} {r j : Nat} (hr : r + 1 < F.length) (hj : nth F r + j < nth F (r + 1)) {x : Lk} (hx : L[nth F r + j]? = some x) :
    rkUpto F L r ++ (rowOf F L r).take j ++ [(r, x)] <+: rkL F L ∧ rkUpto F L r ++ (rowOf F L r).take j ++ [(r, x)] = rkUpto F L r ++ (rowOf F L r).take (j + 1) := by
  have e : (rowOf F L r).take (j + 1) = (rowOf F L r).take j ++ [(r, x)] := by
    rw [List.take_add_one, rowOf_get hj, hx]
    rfl
  refine ⟨?_, by rw [e, List.append_assoc]⟩
  obtain ⟨t, ht⟩ := rkUpto_le F L (show r + 1 ≤ F.length - 1 by omega)
  rw [rkL, ht, rkUpto_succ, List.append_assoc, ← e, List.append_assoc]
  refine List.prefix_append_right_inj _ |>.2 ?_
  exact (List.take_prefix _ _).trans (List.prefix_append _ _)
/-- the link of a number: its rank. -/
theorem rkL_get {F : List Nat} {L : List Lk} (h : FOk F L.length) {i : Nat} {y : Nat × Lk} (hy : (rkL F L)[i]? = some y) : L[i]? = some y.2 ∧ y.1 + 1 < F.length ∧ nth F y.1 ≤ i ∧ i < nth F (y.1 + 1) := by
  have key : ∀ (r : Nat), r < F.length → ∀ i y, (rkUpto F L r)[i]? = some y → L[i]? = some y.2 ∧ y.1 + 1 < F.length ∧ nth F y.1 ≤ i ∧ i < nth F (y.1 + 1) := by
    intro r
    induction r with
    | zero => intro _ i y hy; simp [rkUpto] at hy
    | succ r ih =>
      intro hr i y hy
      rw [rkUpto_succ] at hy
      have hl := rkUpto_len h r (by omega)
      rcases Nat.lt_or_ge i (rkUpto F L r).length with h1 | h1
      · rw [List.getElem?_append_left h1] at hy
        exact ih (by omega) i y hy
      · rw [List.getElem?_append_right h1, hl] at hy
        rw [hl] at h1
        have h2 := (List.getElem?_eq_some_iff.1 hy).1
        rw [rowOf_len h hr] at h2
        rw [rowOf_get (by omega), show nth F r + (i - nth F r) = i by omega] at hy
        cases hL : L[i]? with
        | none => rw [hL] at hy; simp at hy
        | some l =>
          rw [hL] at hy
          simp at hy
          subst hy
          exact ⟨rfl, hr, h1, by show i < nth F (r + 1); omega⟩
  have := h.len
  exact key _ (by omega) i y hy

/-- what a link is made of. -/
def making (s : Sd) (all : List Sd) : Int :=
  if s.lk.plain then (if 2147483647 < s.lk.wt then 8 else 0)
  else if all.length ≤ s.lk.lf ∨ all.length ≤ s.lk.rt then 14
  else if (sd all s.lk.lf).up = true ∨ (sd all s.lk.rt).up = false ∨ (sd all s.lk.lf).rk ≠ (sd all s.lk.rt).rk ∨ (sd all s.lk.lf).tail ≠ s.tail ∨ (sd all s.lk.rt).head ≠ s.head then 14
  else if 140737488355328 < max s.lk.wt (max (sd all s.lk.lf).lk.wt (sd all s.lk.rt).lk.wt) ∨ s.lk.wt ≠ (sd all s.lk.lf).lk.wt + (sd all s.lk.rt).lk.wt then 8 else 0
def sameRow (a b : Sd) : Bool := a.rk == b.rk && a.up == b.up
/-- does the link i stand in order? -/
def rising (all : List Sd) (i : Nat) : Bool := i == 0 || !sameRow (sd all (i - 1)) (sd all i) || decide ((sd all (i - 1)).lk.hd < (sd all i).lk.hd)
def lerr (n : Nat) (all : List Sd) (i : Nat) : Int :=
  if rising all i = false ∨ (sd all i).lk.hd ≤ (sd all i).rk ∨ n ≤ (sd all i).lk.hd then 14 else making (sd all i) all
def cl (n : Nat) (all : List Sd) : Int × List (Int × Int) := ferr 4 (lerr n all) 0 all.length
/-- Check. -/
def chk (h : Hr) : Int × List (Int × Int) :=
  if 65536 < h.node.length ∨ 1048576 < h.up.length + h.dn.length then (9, [])
  else if h.upF.length ≠ h.node.length + 1 ∨ h.dnF.length ≠ h.node.length + 1 then (14, [])
  else orE (cf h.upF h.up.length) (orE (cf h.dnF h.dn.length) (orE (cn h.node) (cl h.node.length (stds h))))
end Go.Proofs.YtodilocmfdeehaaGreatDoor.Hi
