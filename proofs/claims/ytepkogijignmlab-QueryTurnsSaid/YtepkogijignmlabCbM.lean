/- climbing: what is reached from a rank over links that rise, plain mathematics. -/
import Derived.Test.YtepkogijignmlabHtA
namespace Go.Proofs.Ytepkogijignmlab.Cb
open Hi

/-- a length comes to a rank. -/
def relax (vs : List (Option Int)) (x : Nat) (d : Int) : List (Option Int) := match vs[x]? with
  | some (some k) => if d < k then vs.set x (some d) else vs
  | _ => vs.set x (some d)
/-- all links of a rank. -/
def relaxs (d : Int) (row : List Lk) (vs : List (Option Int)) : List (Option Int) := row.foldl (fun vs l => relax vs l.hd (d + l.wt)) vs
/-- the links at a rank. -/
def rowL (F : List Nat) (L : List Lk) (r : Nat) : List Lk := (L.drop (nth F r)).take (nth F (r + 1) - nth F r)
/-- m ranks from r on. -/
def run (row : Nat → List Lk) : Nat → Nat → List (Option Int) → List (Nat × Int) → List (Option Int) × List (Nat × Int)
  | 0, _, vs, out => (vs, out)
  | m + 1, r, vs, out => match vs[r]? with
    | some (some d) => run row m (r + 1) (relaxs d (row r) vs) (out ++ [(r, d)])
    | _ => run row m (r + 1) vs out
def start (n s : Nat) : List (Option Int) := (List.replicate n none).set s (some 0)
/-- is one of the links back shorter? -/
def stalled (vs : List (Option Int)) (row : List Lk) (d : Int) : Bool := row.any fun l => match vs[l.hd]? with
  | some (some a) => decide (a + l.wt < d)
  | _ => false
/-- what a search answers. -/
def climbed (n s : Nat) (ahead back : Nat → List Lk) : List (Nat × Int × Bool) :=
  let R := run ahead n 0 (start n s) []
  R.2.map fun x => (x.1, x.2, stalled R.1 (back x.1) x.2)

theorem relax_len (vs : List (Option Int)) (x : Nat) (d : Int) : (relax vs x d).length = vs.length := by
  unfold relax
  split
  · split <;> simp
  · simp
theorem relax_other {vs : List (Option Int)} {x y : Nat} {d : Int} (h : y ≠ x) : (relax vs x d)[y]? = vs[y]? := by
  unfold relax
  split
  · split
    · rw [List.getElem?_set_ne (fun e => h e.symm)]
    · rfl
  · rw [List.getElem?_set_ne (fun e => h e.symm)]
theorem relax_at {vs : List (Option Int)} {x : Nat} {d : Int} (h : x < vs.length) : ∃ k, (relax vs x d)[x]? = some (some k) ∧ (k = d ∨ vs[x]? = some (some k)) := by
  unfold relax
  split
  · rename_i k hk
    split
    · exact ⟨d, by simp [h], Or.inl rfl⟩
    · exact ⟨k, hk, Or.inr hk⟩
  · exact ⟨d, by simp [h], Or.inl rfl⟩
/-- lengths are no greater than so many links make. -/
def Low (vs : List (Option Int)) : Prop := ∀ (x : Nat) (k : Int), vs[x]? = some (some k) → 0 ≤ k ∧ k ≤ (x : Int) * 140737488355328
theorem low_relax {vs : List (Option Int)} (h : Low vs) {x : Nat} {d : Int} (hd : 0 ≤ d ∧ d ≤ (x : Int) * 140737488355328) : Low (relax vs x d) := by
  intro y k hk
  by_cases e : y = x
  · subst e
    have hlt : y < vs.length := by have := (List.getElem?_eq_some_iff.1 hk).1; rwa [relax_len] at this
    obtain ⟨k2, h2, h3⟩ := relax_at (d := d) hlt
    rw [h2] at hk
    obtain rfl : k2 = k := by simpa using hk
    rcases h3 with rfl | h3
    · exact hd
    · exact h y k2 h3
  · rw [relax_other e] at hk
    exact h y k hk
/-- the ranks that wait: those from r on that have a length. -/
def waits (vs : List (Option Int)) (r : Nat) (z : Int) : Option Int := match vs[z.toNat]? with
  | some (some _) => if (r : Int) ≤ z then some z else none
  | _ => none
theorem waits_some {vs : List (Option Int)} {r x : Nat} {k : Int} (h : waits vs r (x : Int) = some k) : k = (x : Int) ∧ r ≤ x ∧ ∃ d, vs[x]? = some (some d) := by
  unfold waits at h
  rw [Int.toNat_natCast] at h
  split at h
  · rename_i d hd
    split at h
    · rename_i hr
      exact ⟨(Option.some.inj h).symm, by omega, d, hd⟩
    · cases h
  · cases h
theorem waits_none {vs : List (Option Int)} {r x : Nat} (h : waits vs r (x : Int) = none) : x < r ∨ vs[x]? = some none ∨ vs[x]? = none := by
  unfold waits at h
  rw [Int.toNat_natCast] at h
  split at h
  · split at h
    · cases h
    · left; omega
  · rename_i hd
    right
    cases e : vs[x]? with
    | none => exact Or.inr rfl
    | some o =>
      cases o with
      | none => exact Or.inl rfl
      | some d => exact absurd e (hd d)
theorem waits_is {vs : List (Option Int)} {r x : Nat} {d : Int} (hr : r ≤ x) (hd : vs[x]? = some (some d)) : waits vs r (x : Int) = some (x : Int) := by
  unfold waits
  rw [Int.toNat_natCast, hd]
  simp
  omega
/-- ranks without a length are passed over. -/
theorem run_skip (row : Nat → List Lk) {vs : List (Option Int)} {out : List (Nat × Int)} : ∀ (j m r : Nat), j ≤ m → (∀ x, r ≤ x → x < r + j → vs[x]? = some none ∨ vs[x]? = none) → run row m r vs out = run row (m - j) (r + j) vs out
  | 0, m, r, _, _ => by simp
  | j + 1, m, r, hj, h => by
    obtain ⟨m', rfl⟩ : ∃ m', m = m' + 1 := ⟨m - 1, by omega⟩
    have h0 := h r (Nat.le_refl _) (by omega)
    have e : run row (m' + 1) r vs out = run row m' (r + 1) vs out := by
      rw [run]
      rcases h0 with h0 | h0 <;> rw [h0]
    rw [e, run_skip row j m' (r + 1) (by omega) (fun x h1 h2 => h x (by omega) (by omega))]
    congr 1 <;> omega
theorem run_take (row : Nat → List Lk) {vs : List (Option Int)} {out : List (Nat × Int)} {n r x : Nat} {d : Int} (hr : r ≤ x) (hx : x < n) (hd : vs[x]? = some (some d)) (hn : ∀ y, r ≤ y → y < x → vs[y]? = some none ∨ vs[y]? = none) :
    run row (n - r) r vs out = run row (n - (x + 1)) (x + 1) (relaxs d (row x) vs) (out ++ [(x, d)]) := by
  rw [run_skip row (x - r) (n - r) r (by omega) (fun y h1 h2 => hn y h1 (by omega)), show n - r - (x - r) = (n - (x + 1)) + 1 by omega, show r + (x - r) = x by omega, run, hd]
theorem run_end (row : Nat → List Lk) {vs : List (Option Int)} {out : List (Nat × Int)} {n r : Nat} (hr : r ≤ n) (hn : ∀ y, r ≤ y → y < n → vs[y]? = some none ∨ vs[y]? = none) : run row (n - r) r vs out = (vs, out) := by
  rw [run_skip row (n - r) (n - r) r (Nat.le_refl _) (fun y h1 h2 => hn y h1 (by omega)), Nat.sub_self, run]
theorem relaxs_len (d : Int) : ∀ (row : List Lk) (vs : List (Option Int)), (relaxs d row vs).length = vs.length
  | [], vs => rfl
  | l :: r, vs => by
    show (relaxs d r (relax vs l.hd (d + l.wt))).length = _
    rw [relaxs_len d r, relax_len]
/-- only ends and weights count. -/
theorem relaxs_turn (d : Int) (p q : Nat) : ∀ (row : List Lk) (vs : List (Option Int)), relaxs d (row.map (turnL p q)) vs = relaxs d row vs
  | [], vs => rfl
  | l :: r, vs => by
    show relaxs d (r.map (turnL p q)) (relax vs (turnL p q l).hd (d + (turnL p q l).wt)) = relaxs d r (relax vs l.hd (d + l.wt))
    rw [turnL_hd, turnL_wt, relaxs_turn d p q r]
theorem run_turn (p q : Nat) (row : Nat → List Lk) : ∀ (m r : Nat) (vs : List (Option Int)) (out : List (Nat × Int)), run (fun r => (row r).map (turnL p q)) m r vs out = run row m r vs out
  | 0, _, _, _ => rfl
  | m + 1, r, vs, out => by
    rw [run, run]
    split
    · rw [relaxs_turn, run_turn p q row m]
    · rw [run_turn p q row m]
theorem stalled_turn (p q : Nat) (vs : List (Option Int)) (row : List Lk) (d : Int) : stalled vs (row.map (turnL p q)) d = stalled vs row d := by
  unfold stalled
  rw [List.any_map]
  congr 1
  funext l
  simp [turnL_hd, turnL_wt]
theorem climbed_turn (p q n s : Nat) (ahead back : Nat → List Lk) : climbed n s (fun r => (ahead r).map (turnL p q)) (fun r => (back r).map (turnL p q)) = climbed n s ahead back := by
  unfold climbed
  simp only [run_turn, stalled_turn]
theorem rowL_map (F : List Nat) (L : List Lk) (f : Lk → Lk) (r : Nat) : rowL F (L.map f) r = (rowL F L r).map f := by simp [rowL, ← List.map_drop, ← List.map_take]
/-- Up and Down. -/
def upL (h : Hr) (s : Nat) : List (Nat × Int × Bool) := climbed h.node.length s (rowL h.upF h.up) (rowL h.dnF h.dn)
def dnL (h : Hr) (s : Nat) : List (Nat × Int × Bool) := climbed h.node.length s (rowL h.dnF h.dn) (rowL h.upF h.up)
theorem up_turn (h : Hr) (s : Nat) : upL (turnH h) s = dnL h s := by
  unfold upL dnL turnH
  simp only [funext (rowL_map _ _ _)]
  exact climbed_turn _ _ _ _ _ _
theorem dn_turn (h : Hr) (s : Nat) : dnL (turnH h) s = upL h s := by
  unfold upL dnL turnH
  simp only [funext (rowL_map _ _ _)]
  exact climbed_turn _ _ _ _ _ _
theorem row_at {F : List Nat} {L : List Lk} (hF : FOk F L.length) {r : Nat} (hr : r + 1 < F.length) {l : Lk} (hl : l ∈ rowL F L r) : ∃ i : Nat, (rkL F L)[i]? = some (r, l) := by
  obtain ⟨j, hj⟩ := List.mem_iff_getElem?.1 hl
  unfold rowL at hj
  rw [List.getElem?_take] at hj
  split at hj
  · rename_i h1
    rw [List.getElem?_drop] at hj
    have h2 : nth F r + j < (rkL F L).length := by rw [rkL_len hF]; exact (List.getElem?_eq_some_iff.1 hj).1
    refine ⟨nth F r + j, ?_⟩
    obtain ⟨y, hy⟩ : ∃ y, (rkL F L)[nth F r + j]? = some y := ⟨_, List.getElem?_eq_getElem h2⟩
    obtain ⟨a1, a2, a3, a4⟩ := rkL_get hF hy
    rw [hj] at a1
    have e2 : y.2 = l := (Option.some.inj a1).symm
    have e1 : y.1 = r := by
      rcases Nat.lt_trichotomy y.1 r with h3 | h3 | h3
      · have := hF.mono (a := y.1 + 1) (b := r) h3 (by omega); omega
      · exact h3
      · have := hF.mono (a := r + 1) (b := y.1) h3 (by omega); omega
    rw [hy, ← e1, ← e2]
  · cases hj
/-- a link of a row, in form. -/
theorem row_form {h : Hr} (hc : chk h = (0, [])) {r : Nat} (hr : r < h.node.length) {l : Lk} (hl : l ∈ rowL h.upF h.up r ∨ l ∈ rowL h.dnF h.dn r) : r < l.hd ∧ l.hd < h.node.length ∧ l.wt ≤ 140737488355328 := by
  obtain ⟨k1, k2, k3, k4, k5, k6, k7, k8⟩ := chk_ok hc
  have key : ∀ (i : Nat) (s : Sd), (stds h)[i]? = some s → s.rk = r → s.lk = l → r < l.hd ∧ l.hd < h.node.length ∧ l.wt ≤ 140737488355328 := fun i s hs e1 e2 => by
    have hi := (List.getElem?_eq_some_iff.1 hs).1
    have f := in_form hc hi
    have f1 := f.low
    have f2 := f.high
    have f3 := f.mak
    rw [sd_of hs, e1, e2] at f1
    rw [sd_of hs, e2] at f2
    rw [sd_of hs] at f3
    refine ⟨f1, f2, ?_⟩
    cases hp : s.lk.plain
    · have := ((made_iff hp).1 f3).ws
      rw [e2] at this
      omega
    · unfold making at f3
      rw [if_pos hp] at f3
      split at f3
      · cases f3
      · rename_i g
        rw [e2] at g
        omega
  rcases hl with hl | hl
  · obtain ⟨i, hi⟩ := row_at k5 (by omega) hl
    have hlt := (List.getElem?_eq_some_iff.1 hi).1
    refine key i ⟨l, r, true⟩ ?_ rfl rfl
    unfold stds
    rw [List.getElem?_append_left (by rw [List.length_map]; exact hlt), List.getElem?_map, hi]
    rfl
  · obtain ⟨i, hi⟩ := row_at k6 (by omega) hl
    refine key ((rkL h.upF h.up).length + i) ⟨l, r, false⟩ ?_ rfl rfl
    unfold stds
    rw [List.getElem?_append_right (by rw [List.length_map]; omega), List.length_map, show (rkL h.upF h.up).length + i - (rkL h.upF h.up).length = i by omega, List.getElem?_map, hi]
    rfl
end Go.Proofs.Ytepkogijignmlab.Cb
