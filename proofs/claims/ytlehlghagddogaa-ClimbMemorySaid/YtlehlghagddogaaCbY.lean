/- climbing: what is reached from a rank over links that rise, plain mathematics. heap.Push, whose keys are the things' own numbers. a climber in memory; rows.at, climber.reach. rows.at; the heap's least rank; lists of what is seen. climber.reached: what can be reached over links that rise. climber.stall. climb's newClimber and search. climb.Up and climb.Down; the law's great and of; the reference's Same. (gencg.py) hier.Turn at a hierarchy that is not in form; what HierTurns leans on. the law's stalls and awake. (gench.py) climbing: no rank is nearer by a link, and each is reached by one. Plain mathematics. rows of lengths and of truths in memory; what the steps of a climb come to. where two lists of ranks meet: plain mathematics. query.nearest. query.ends. query.meet, Distance and Meet. A region that draws its order and ends in one operation that waits for all others. the reference's lengths, rank by rank: plain mathematics. -/
import Derived.Test.YtlehlghagddogaaHtA
import Derived.Test.YtlehlghagddogaaHpA
import Derived.Test.YtlehlghagddogaaHsA
import Derived.Laws.OwnMore
import Derived.Test.YtlehlghagddogaaHrZ
import Derived.Deep.RegionHeld3
import Derived.Test.YtlehlghagddogaaHsF
import Derived.Test.YtlehlghagddogaaHrQ
import Derived.Test.YtlehlghagddogaaHrC
import Derived.Test.YtlehlghagddogaaHrR
import Derived.Test.YtlehlghagddogaaHdM
namespace Go.Proofs.Ytlehlghagddogaa.Cb
open Hi

/-- a length comes to a rank. -/
def relax (vs : List (Option Int)) (x : Nat) (d : Int) : List (Option Int) := match vs[x]? with
  | some (some k) => if d < k then vs.set x (some d) else vs
  | _ => vs.set x (some d)
/-- all links of a rank. -/
def relaxs (d : Int) (row : List Lk) (vs : List (Option Int)) : List (Option Int) := row.foldl (fun vs l => relax vs l.hd (d + l.wt)) vs
/-- the links at a rank. -/
def rowL (F : List Nat) (L : List Lk) (r : Nat) : List Lk := (L.drop (nth F r)).take (nth F (r + 1) - nth F r)
/-- m ranks from r on. -/
def run (row : Nat → List Lk) : Nat → Nat → List (Option Int) → List (Nat × Int) → List (Option Int) × List (Nat × Int)
  | 0, _, vs, out => (vs, out)
  | m + 1, r, vs, out => match vs[r]? with
    | some (some d) => run row m (r + 1) (relaxs d (row r) vs) (out ++ [(r, d)])
    | _ => run row m (r + 1) vs out
def start (n s : Nat) : List (Option Int) := (List.replicate n none).set s (some 0)
/-- is one of the links back shorter? -/
def stalled (vs : List (Option Int)) (row : List Lk) (d : Int) : Bool := row.any fun l => match vs[l.hd]? with
  | some (some a) => decide (a + l.wt < d)
  | _ => false
/-- what a search answers. -/
def climbed (n s : Nat) (ahead back : Nat → List Lk) : List (Nat × Int × Bool) :=
  let R := run ahead n 0 (start n s) []
  R.2.map fun x => (x.1, x.2, stalled R.1 (back x.1) x.2)

theorem relax_len (vs : List (Option Int)) (x : Nat) (d : Int) : (relax vs x d).length = vs.length := by
  unfold relax
  split
  · split <;> simp
  · simp
theorem relax_other {vs : List (Option Int)} {x y : Nat} {d : Int} (h : y ≠ x) : (relax vs x d)[y]? = vs[y]? := by
  unfold relax
  split
  · split
    · rw [List.getElem?_set_ne (fun e => h e.symm)]
    · rfl
  · rw [List.getElem?_set_ne (fun e => h e.symm)]
theorem relax_at {vs : List (Option Int)} {x : Nat} {d : Int} (h : x < vs.length) : ∃ k, (relax vs x d)[x]? = some (some k) ∧ (k = d ∨ vs[x]? = some (some k)) := by
  unfold relax
  split
  · rename_i k hk
    split
    · exact ⟨d, by simp [h], Or.inl rfl⟩
    · exact ⟨k, hk, Or.inr hk⟩
  · exact ⟨d, by simp [h], Or.inl rfl⟩
/-- lengths are no greater than so many links make. -/
def Low (vs : List (Option Int)) : Prop := ∀ (x : Nat) (k : Int), vs[x]? = some (some k) → 0 ≤ k ∧ k ≤ (x : Int) * 140737488355328
theorem low_relax {vs : List (Option Int)} (h : Low vs) {x : Nat} {d : Int} (hd : 0 ≤ d ∧ d ≤ (x : Int) * 140737488355328) : Low (relax vs x d) := by
  intro y k hk
  by_cases e : y = x
  · subst e
    have hlt : y < vs.length := by have := (List.getElem?_eq_some_iff.1 hk).1; rwa [relax_len] at this
    obtain ⟨k2, h2, h3⟩ := relax_at (d := d) hlt
    rw [h2] at hk
    obtain rfl : k2 = k := by simpa using hk
    rcases h3 with rfl | h3
    · exact hd
    · exact h y k2 h3
  · rw [relax_other e] at hk
    exact h y k hk
/-- the ranks that wait: those from r on that have a length. -/
def waits (vs : List (Option Int)) (r : Nat) (z : Int) : Option Int := match vs[z.toNat]? with
  | some (some _) => if (r : Int) ≤ z then some z else none
  | _ => none
theorem waits_some {vs : List (Option Int)} {r x : Nat} {k : Int} (h : waits vs r (x : Int) = some k) : k = (x : Int) ∧ r ≤ x ∧ ∃ d, vs[x]? = some (some d) := by
  unfold waits at h
  rw [Int.toNat_natCast] at h
  split at h
  · rename_i d hd
    split at h
    · rename_i hr
      exact ⟨(Option.some.inj h).symm, by omega, d, hd⟩
    · cases h
  · cases h
theorem waits_none {vs : List (Option Int)} {r x : Nat} (h : waits vs r (x : Int) = none) : x < r ∨ vs[x]? = some none ∨ vs[x]? = none := by
  unfold waits at h
  rw [Int.toNat_natCast] at h
  split at h
  · split at h
    · cases h
    · left; omega
  · rename_i hd
    right
    cases e : vs[x]? with
    | none => exact Or.inr rfl
    | some o =>
      cases o with
      | none => exact Or.inl rfl
      | some d => exact absurd e (hd d)
theorem waits_is {vs : List (Option Int)} {r x : Nat} {d : Int} (hr : r ≤ x) (hd : vs[x]? = some (some d)) : waits vs r (x : Int) = some (x : Int) := by
  unfold waits
  rw [Int.toNat_natCast, hd]
  simp
  omega
/-- ranks without a length are passed over. -/
theorem run_skip (row : Nat → List Lk) {vs : List (Option Int)} {out : List (Nat × Int)} : ∀ (j m r : Nat), j ≤ m → (∀ x, r ≤ x → x < r + j → vs[x]? = some none ∨ vs[x]? = none) → run row m r vs out = run row (m - j) (r + j) vs out
  | 0, m, r, _, _ => by simp
  | j + 1, m, r, hj, h => by
    obtain ⟨m', rfl⟩ : ∃ m', m = m' + 1 := ⟨m - 1, by omega⟩
    have h0 := h r (Nat.le_refl _) (by omega)
    have e : run row (m' + 1) r vs out = run row m' (r + 1) vs out := by
      rw [run]
      rcases h0 with h0 | h0 <;> rw [h0]
    rw [e, run_skip row j m' (r + 1) (by omega) (fun x h1 h2 => h x (by omega) (by omega))]
    congr 1 <;> omega
theorem run_take (row : Nat → List Lk) {vs : List (Option Int)} {out : List (Nat × Int)} {n r x : Nat} {d : Int} (hr : r ≤ x) (hx : x < n) (hd : vs[x]? = some (some d)) (hn : ∀ y, r ≤ y → y < x → vs[y]? = some none ∨ vs[y]? = none) :
    run row (n - r) r vs out = run row (n - (x + 1)) (x + 1) (relaxs d (row x) vs) (out ++ [(x, d)]) := by
  rw [run_skip row (x - r) (n - r) r (by omega) (fun y h1 h2 => hn y h1 (by omega)), show n - r - (x - r) = (n - (x + 1)) + 1 by omega, show r + (x - r) = x by omega, run, hd]
theorem run_end (row : Nat → List Lk) {vs : List (Option Int)} {out : List (Nat × Int)} {n r : Nat} (hr : r ≤ n) (hn : ∀ y, r ≤ y → y < n → vs[y]? = some none ∨ vs[y]? = none) : run row (n - r) r vs out = (vs, out) := by
  rw [run_skip row (n - r) (n - r) r (Nat.le_refl _) (fun y h1 h2 => hn y h1 (by omega)), Nat.sub_self, run]
theorem relaxs_len (d : Int) : ∀ (row : List Lk) (vs : List (Option Int)), (relaxs d row vs).length = vs.length
  | [], vs => rfl
  | l :: r, vs => by
    show (relaxs d r (relax vs l.hd (d + l.wt))).length = _
    rw [relaxs_len d r, relax_len]
/-- only ends and weights count. -/
theorem relaxs_turn (d : Int) (p q : Nat) : ∀ (row : List Lk) (vs : List (Option Int)), relaxs d (row.map (turnL p q)) vs = relaxs d row vs
  | [], vs => rfl
  | l :: r, vs => by
    show relaxs d (r.map (turnL p q)) (relax vs (turnL p q l).hd (d + (turnL p q l).wt)) = relaxs d r (relax vs l.hd (d + l.wt))
    rw [turnL_hd, turnL_wt, relaxs_turn d p q r]
theorem run_turn (p q : Nat) (row : Nat → List Lk) : ∀ (m r : Nat) (vs : List (Option Int)) (out : List (Nat × Int)), run (fun r => (row r).map (turnL p q)) m r vs out = run row m r vs out
  | 0, _, _, _ => rfl
  | m + 1, r, vs, out => by
    rw [run, run]
    split
    · rw [relaxs_turn, run_turn p q row m]
    · rw [run_turn p q row m]
theorem stalled_turn (p q : Nat) (vs : List (Option Int)) (row : List Lk) (d : Int) : stalled vs (row.map (turnL p q)) d = stalled vs row d := by
  unfold stalled
  rw [List.any_map]
  congr 1
  funext l
  simp [turnL_hd, turnL_wt]
theorem climbed_turn (p q n s : Nat) (ahead back : Nat → List Lk) : climbed n s (fun r => (ahead r).map (turnL p q)) (fun r => (back r).map (turnL p q)) = climbed n s ahead back := by
  unfold climbed
  simp only [run_turn, stalled_turn]
theorem rowL_map (F : List Nat) (L : List Lk) (f : Lk → Lk) (r : Nat) : rowL F (L.map f) r = (rowL F L r).map f := by simp [rowL, ← List.map_drop, ← List.map_take]
/-- Up and Down. -/
def upL (h : Hr) (s : Nat) : List (Nat × Int × Bool) := climbed h.node.length s (rowL h.upF h.up) (rowL h.dnF h.dn)
def dnL (h : Hr) (s : Nat) : List (Nat × Int × Bool) := climbed h.node.length s (rowL h.dnF h.dn) (rowL h.upF h.up)
theorem up_turn (h : Hr) (s : Nat) : upL (turnH h) s = dnL h s := by
  unfold upL dnL turnH
  simp only [funext (rowL_map _ _ _)]
  exact climbed_turn _ _ _ _ _ _
theorem dn_turn (h : Hr) (s : Nat) : dnL (turnH h) s = upL h s := by
  unfold upL dnL turnH
  simp only [funext (rowL_map _ _ _)]
  exact climbed_turn _ _ _ _ _ _
theorem row_at {F : List Nat} {L : List Lk} (hF : FOk F L.length) {r : Nat} (hr : r + 1 < F.length) {l : Lk} (hl : l ∈ rowL F L r) : ∃ i : Nat, (rkL F L)[i]? = some (r, l) := by
  obtain ⟨j, hj⟩ := List.mem_iff_getElem?.1 hl
  unfold rowL at hj
  rw [List.getElem?_take] at hj
  split at hj
  · rename_i h1
    rw [List.getElem?_drop] at hj
    have h2 : nth F r + j < (rkL F L).length := by rw [rkL_len hF]; exact (List.getElem?_eq_some_iff.1 hj).1
    refine ⟨nth F r + j, ?_⟩
    obtain ⟨y, hy⟩ : ∃ y, (rkL F L)[nth F r + j]? = some y := ⟨_, List.getElem?_eq_getElem h2⟩
    obtain ⟨a1, a2, a3, a4⟩ := rkL_get hF hy
    rw [hj] at a1
    have e2 : y.2 = l := (Option.some.inj a1).symm
    have e1 : y.1 = r := by
      rcases Nat.lt_trichotomy y.1 r with h3 | h3 | h3
      · have := hF.mono (a := y.1 + 1) (b := r) h3 (by omega); omega
      · exact h3
      · have := hF.mono (a := r + 1) (b := y.1) h3 (by omega); omega
    rw [hy, ← e1, ← e2]
  · cases hj
/-- a link of a row, in form. -/
theorem row_form {h : Hr} (hc : chk h = (0, [])) {r : Nat} (hr : r < h.node.length) {l : Lk} (hl : l ∈ rowL h.upF h.up r ∨ l ∈ rowL h.dnF h.dn r) : r < l.hd ∧ l.hd < h.node.length ∧ l.wt ≤ 140737488355328 := by
  obtain ⟨k1, k2, k3, k4, k5, k6, k7, k8⟩ := chk_ok hc
  have key : ∀ (i : Nat) (s : Sd), (stds h)[i]? = some s → s.rk = r → s.lk = l → r < l.hd ∧ l.hd < h.node.length ∧ l.wt ≤ 140737488355328 := fun i s hs e1 e2 => by
    have hi := (List.getElem?_eq_some_iff.1 hs).1
    have f := in_form hc hi
    have f1 := f.low
    have f2 := f.high
    have f3 := f.mak
    rw [sd_of hs, e1, e2] at f1
    rw [sd_of hs, e2] at f2
    rw [sd_of hs] at f3
    refine ⟨f1, f2, ?_⟩
    cases hp : s.lk.plain
    · have := ((made_iff hp).1 f3).ws
      rw [e2] at this
      omega
    · unfold making at f3
      rw [if_pos hp] at f3
      split at f3
      · cases f3
      · rename_i g
        rw [e2] at g
        omega
  rcases hl with hl | hl
  · obtain ⟨i, hi⟩ := row_at k5 (by omega) hl
    have hlt := (List.getElem?_eq_some_iff.1 hi).1
    refine key i ⟨l, r, true⟩ ?_ rfl rfl
    unfold stds
    rw [List.getElem?_append_left (by rw [List.length_map]; exact hlt), List.getElem?_map, hi]
    rfl
  · obtain ⟨i, hi⟩ := row_at k6 (by omega) hl
    refine key ((rkL h.upF h.up).length + i) ⟨l, r, false⟩ ?_ rfl rfl
    unfold stds
    rw [List.getElem?_append_right (by rw [List.length_map]; omega), List.length_map, show (rkL h.upF h.up).length + i - (rkL h.upF h.up).length = i by omega, List.getElem?_map, hi]
    rfl
end Go.Proofs.Ytlehlghagddogaa.Cb

namespace Go.Proofs.Ytlehlghagddogaa.Hp
open Go.RowKit Go.Extern

attribute [local go_sem] Oper.semAt_some
section
variable {w : World} {hb wb n : Nat} {sv : Value} {f : Int → Option Int}

set_option maxHeartbeats 1000000 in
theorem key_out (h : IsHeap w hb wb n sv f) (d : Nat) (hd : d < n) (hf : f d = none) : Calls Try.prog 67 #[.pointer (some ⟨hb, 0, none⟩), .int .u32 d] w fun e w' => e = .returned (.tuple #[.int .u64 0, .bool false]) ∧ w' = w := by
  obtain ⟨ps, wh, hM, hH⟩ := h
  have h0 : wh[d]? = some 0 := by
    rcases hH.back d (by rw [hM.len]; exact hd) with ⟨h0, _⟩ | ⟨i, y, _, _, _, h1⟩
    · exact h0
    · rw [hf] at h1; cases h1
  have HP : Hid (Calls Try.prog 70 #[.pointer (some ⟨hb, 0, none⟩), .int .u32 d] w fun e w' => e = .returned (.tuple #[.int .i64 0, .bool false]) ∧ w' = w) := place_out hM d h0
  clear hM hH h0
  go_enter Try.func67, Try.ntmps67
  go_wp2_with fail
  refine HP.out.mono ?_
  rintro e w1 ⟨rfl, hw1⟩
  subst hw1
  go_wp2
  go_ret2
  exact ⟨rfl, rfl⟩

set_option maxHeartbeats 1000000 in
theorem key_in (h : IsHeap w hb wb n sv f) (d : Nat) (hd : d < n) (k : Int) (hf : f d = some k) : Calls Try.prog 67 #[.pointer (some ⟨hb, 0, none⟩), .int .u32 d] w fun e w' => e = .returned (.tuple #[.int .u64 k, .bool true]) ∧ w' = w := by
  obtain ⟨ps, wh, hM, hH⟩ := h
  have hlen := hM.len
  have hbig := hM.big
  obtain ⟨i, y, h0, hy, _, hk⟩ : ∃ (i : Nat) (y : Th), wh[d]? = some ((i : Int) + 1) ∧ ps[i]? = some y ∧ y.2 = d ∧ f d = some y.1 := by
    rcases hH.back d (by omega) with ⟨_, h1⟩ | h1
    · rw [hf] at h1; cases h1
    · exact h1
  have hil := (List.getElem?_eq_some_iff.1 hy).1
  have hfew := hH.few
  obtain ⟨yk, yd⟩ := y
  obtain rfl : k = yk := by rw [hf] at hk; exact Option.some.inj hk
  have HP : Hid (Calls Try.prog 70 #[.pointer (some ⟨hb, 0, none⟩), .int .u32 d] w fun e w' => e = .returned (.tuple #[.int .i64 i, .bool true]) ∧ w' = w) := place_in hM d i h0 (by omega)
  obtain ⟨c0, c1, _, _⟩ := hM.cells
  obtain ⟨g, cap, e, hc1, hc2, hgl, _, _, q0, q1, _, _⟩ := hM.thing hy
  subst e
  have b1 : (0 : Int) ≤ (i : Int) := by omega
  have b2 : (i : Int) < (ps.length : Int) := by omega
  unfold maxLen at hc2
  clear hM hH h0 hy hk hf hfew
  go_enter Try.func67, Try.ntmps67
  go_wp2_with fail
  refine HP.out.mono ?_
  rintro e w1 ⟨rfl, hw1⟩
  subst hw1
  go_wp2
  go_ret2
  exact ⟨rfl, rfl⟩


set_option maxHeartbeats 1000000 in
theorem push_out (h : IsHeap w hb wb n sv f) (d : Nat) (hd : d < n) (k : Int) (hf : f d = none) : Calls Try.prog 57 #[.pointer (some ⟨hb, 0, none⟩), .int .u32 d, .int .u64 k] w fun e w' => e = .returned .nilIface ∧ ∃ sv', IsHeap w' hb wb n sv' (upd f d (some k)) ∧ Fr hb wb sv sv' w w' := by
  have HK : Hid (type_of% (key_out h d hd hf)) := key_out h d hd hf
  have HS : Hid (type_of% (set_calls h d hd k)) := set_calls h d hd k
  clear h hf
  go_enter Try.func57, Try.ntmps57
  go_wp2_with fail
  refine HK.out.mono ?_
  rintro e w1 ⟨rfl, hw1⟩
  subst hw1
  go_wp2_with fail
  refine HS.out.mono ?_
  rintro e w2 ⟨rfl, hS⟩
  have HS2 : Hid _ := hS
  clear hS
  go_wp2
  go_ret
  exact ⟨rfl, HS2.out⟩

set_option maxHeartbeats 1000000 in
theorem push_in (h : IsHeap w hb wb n sv f) (d : Nat) (hd : d < n) (k k0 : Int) (hf : f d = some k0) : Calls Try.prog 57 #[.pointer (some ⟨hb, 0, none⟩), .int .u32 d, .int .u64 k] w fun e w' => e = .returned .nilIface ∧ ∃ sv', IsHeap w' hb wb n sv' (upd f d (some (if k0 < k then k0 else k))) ∧ Fr hb wb sv sv' w w' := by
  have HK : Hid (type_of% (key_in h d hd k0 hf)) := key_in h d hd k0 hf
  by_cases hlt : k0 < k
  · rw [if_pos hlt]
    have HS : Hid (type_of% (set_calls h d hd k0)) := set_calls h d hd k0
    clear h hf
    go_enter Try.func57, Try.ntmps57
    go_wp2_with fail
    refine HK.out.mono ?_
    rintro e w1 ⟨rfl, hw1⟩
    subst hw1
    go_wp2_with fail
    refine HS.out.mono ?_
    rintro e w2 ⟨rfl, hS⟩
    have HS2 : Hid _ := hS
    clear hS
    go_wp2
    go_ret
    exact ⟨rfl, HS2.out⟩
  · rw [if_neg hlt]
    have HS : Hid (type_of% (set_calls h d hd k)) := set_calls h d hd k
    clear h hf
    go_enter Try.func57, Try.ntmps57
    go_wp2_with fail
    refine HK.out.mono ?_
    rintro e w1 ⟨rfl, hw1⟩
    subst hw1
    go_wp2_with fail
    refine HS.out.mono ?_
    rintro e w2 ⟨rfl, hS⟩
    have HS2 : Hid _ := hS
    clear hS
    go_wp2
    go_ret
    exact ⟨rfl, HS2.out⟩
/-- a thing under its own number, whether it is in or not. -/
theorem push_own (h : IsHeap w hb wb n sv f) (d : Nat) (hd : d < n) (hf : f d = none ∨ f d = some (d : Int)) : Calls Try.prog 57 #[.pointer (some ⟨hb, 0, none⟩), .int .u32 d, .int .u64 d] w fun e w' => e = .returned .nilIface ∧ ∃ sv', IsHeap w' hb wb n sv' (upd f d (some (d : Int))) ∧ Fr hb wb sv sv' w w' := by
  rcases hf with hf | hf
  · exact push_out h d hd d hf
  · have g := push_in h d hd d d hf
    rw [if_neg (Int.lt_irrefl _)] at g
    exact g
end
end Go.Proofs.Ytlehlghagddogaa.Hp

namespace Go.Proofs.Ytlehlghagddogaa.Cb
open Go.RowKit Go.Extern Go.Shelf Hi

attribute [local go_sem] Oper.semAt_some

/-- where a climber lies. -/
structure CP where
  ci : Nat
  sb : Nat
  pb : Nat
  hb : Nat
  wb : Nat
structure CP.Apart (L : CP) : Prop where
  cs : L.ci ≠ L.sb
  cp : L.ci ≠ L.pb
  ch : L.ci ≠ L.hb
  cw : L.ci ≠ L.wb
  sh : L.sb ≠ L.hb
  sw : L.sb ≠ L.wb
  ph : L.pb ≠ L.hb
  pw : L.pb ≠ L.wb
/-- is k one of its blocks, or of its heap's row? -/
def CP.Own (L : CP) (sv : Value) (k : Nat) : Prop := k = L.ci ∨ k = L.sb ∨ k = L.pb ∨ k = L.hb ∨ k = L.wb ∨ sv.ownBlock = some k
structure Clm (B : Nat) (w : World) (n : Nat) (L : CP) (sv : Value) (vs : List (Option Int)) (f : Int → Option Int) : Prop where
  box : w.heap[L.ci]? = some (.cells #[.pointer (some ⟨L.sb, 0, none⟩), .pointer (some ⟨L.hb, 0, none⟩)] 93)
  st : St.IsStamp w L.sb L.pb n vs
  hp : Hp.IsHeap w L.hb L.wb n sv f
  ap : L.Apart
  nc : sv.ownBlock ≠ some L.ci
  ns : sv.ownBlock ≠ some L.sb
  np : sv.ownBlock ≠ some L.pb
  up : ∀ k, L.Own sv k → B ≤ k
/-- what calls on a climber leave alone. -/
structure Fx (L : CP) (sv sv' : Value) (w w' : World) : Prop where
  os : w'.os = w.os
  tape : w'.tape = w.tape
  output : w'.output = w.output
  size : w.heap.size ≤ w'.heap.size
  block : ∀ k, k < w.heap.size → ¬ L.Own sv k → w'.heap[k]? = w.heap[k]?
  own : ∀ k, k < w.heap.size → sv'.ownBlock = some k → sv.ownBlock = some k
theorem Fx.of_below {L : CP} {sv : Value} {w w' : World} (h : Below w.heap.size w w') : Fx L sv sv w w' := ⟨h.os, h.tape, h.output, h.size, fun k hk _ => h.block k hk, fun _ _ e => e⟩
theorem Fx.trans {L : CP} {sv sv' sv'' : Value} {w w' w'' : World} (h : Fx L sv sv' w w') (g : Fx L sv' sv'' w' w'') : Fx L sv sv'' w w'' :=
  ⟨g.os.trans h.os, g.tape.trans h.tape, g.output.trans h.output, Nat.le_trans h.size g.size, fun k hk hn => (g.block k (Nat.lt_of_lt_of_le hk h.size) (fun ho => hn (by
    rcases ho with o | o | o | o | o | o
    · exact Or.inl o
    · exact Or.inr (Or.inl o)
    · exact Or.inr (Or.inr (Or.inl o))
    · exact Or.inr (Or.inr (Or.inr (Or.inl o)))
    · exact Or.inr (Or.inr (Or.inr (Or.inr (Or.inl o))))
    · exact Or.inr (Or.inr (Or.inr (Or.inr (Or.inr (h.own k hk o)))))))).trans (h.block k hk hn), fun k hk e => h.own k hk (g.own k (Nat.lt_of_lt_of_le hk h.size) e)⟩
theorem Fx.below {B : Nat} {w w' : World} {n : Nat} {L : CP} {sv sv' : Value} {vs : List (Option Int)} {f : Int → Option Int} (h : Clm B w n L sv vs f) (g : Fx L sv sv' w w') (hB : B ≤ w.heap.size) : Below B w w' :=
  ⟨g.os, g.tape, g.output, g.size, fun k hk => g.block k (by omega) (fun ho => by have := h.up k ho; omega)⟩
variable {B : Nat} {w w' : World} {n : Nat} {L : CP} {sv sv' : Value} {vs vs' : List (Option Int)} {f f' : Int → Option Int}
theorem Clm.keep (h : Clm B w n L sv vs f) (hk : ∀ k, k < w.heap.size → L.Own sv k → w'.heap[k]? = w.heap[k]?) : Clm B w' n L sv vs f :=
  ⟨(hk _ (Hi.some_lt h.box) (Or.inl rfl)).trans h.box, h.st.keep fun k hk' e => hk k hk' (by rcases e with e | e <;> simp [CP.Own, e]), h.hp.keep fun k hk' e => hk k hk' (by rcases e with e | e | e <;> simp [CP.Own, e]), h.ap, h.nc, h.ns, h.np, h.up⟩
theorem Clm.below (h : Clm B w n L sv vs f) (hb : Below w.heap.size w w') : Clm B w' n L sv vs f := h.keep fun k hk _ => hb.block k hk
theorem Clm.stamped (h : Clm B w n L sv vs f) (hs : St.IsStamp w' L.sb L.pb n vs') (hf : St.Fr L.sb L.pb w w') : Clm B w' n L sv vs' f ∧ Fx L sv sv w w' := by
  have keep : ∀ k, k < w.heap.size → k ≠ L.sb → k ≠ L.pb → w'.heap[k]? = w.heap[k]? := hf.block
  refine ⟨⟨(keep _ (Hi.some_lt h.box) h.ap.cs h.ap.cp).trans h.box, hs, h.hp.keep fun k hk' e => keep k hk' ?_ ?_, h.ap, h.nc, h.ns, h.np, h.up⟩, hf.os, hf.tape, hf.output, hf.size, fun k hk hn => keep k hk (fun e => hn (Or.inr (Or.inl e))) (fun e => hn (Or.inr (Or.inr (Or.inl e)))), fun _ _ e => e⟩
  · rintro rfl
    rcases e with e | e | e
    · exact h.ap.sh e
    · exact h.ap.sw e
    · exact h.ns e
  · rintro rfl
    rcases e with e | e | e
    · exact h.ap.ph e
    · exact h.ap.pw e
    · exact h.np e
theorem Clm.heaped (h : Clm B w n L sv vs f) (hs : Hp.IsHeap w' L.hb L.wb n sv' f') (hf : Hp.Fr L.hb L.wb sv sv' w w') (hB : B ≤ w.heap.size) : Clm B w' n L sv' vs f' ∧ Fx L sv sv' w w' := by
  have hci := Hi.some_lt h.box
  obtain ⟨ls, lp, _⟩ := h.st.lt
  have keep : ∀ k, k < w.heap.size → k ≠ L.hb → k ≠ L.wb → sv.ownBlock ≠ some k → w'.heap[k]? = w.heap[k]? := fun k hk h1 h2 h3 => hf.block k hk h1 h2 (fun e => h3 e.symm)
  refine ⟨⟨(keep _ hci h.ap.ch h.ap.cw h.nc).trans h.box, h.st.keep fun k hk' e => ?_, hs, h.ap, fun e => h.nc (hf.own _ hci e), fun e => h.ns (hf.own _ ls e), fun e => h.np (hf.own _ lp e), fun k ho => ?_⟩, hf.os, hf.tape, hf.output, hf.size, fun k hk hn => keep k hk (fun e => hn (Or.inr (Or.inr (Or.inr (Or.inl e))))) (fun e => hn (Or.inr (Or.inr (Or.inr (Or.inr (Or.inl e)))))) (fun e => hn (Or.inr (Or.inr (Or.inr (Or.inr (Or.inr e)))))), hf.own⟩
  · rcases e with rfl | rfl
    · exact keep _ hk' h.ap.sh h.ap.sw h.ns
    · exact keep _ hk' h.ap.ph h.ap.pw h.np
  · rcases ho with o | o | o | o | o | o
    · exact h.up k (Or.inl o)
    · exact h.up k (Or.inr (Or.inl o))
    · exact h.up k (Or.inr (Or.inr (Or.inl o)))
    · exact h.up k (Or.inr (Or.inr (Or.inr (Or.inl o))))
    · exact h.up k (Or.inr (Or.inr (Or.inr (Or.inr (Or.inl o)))))
    · rcases Nat.lt_or_ge k w.heap.size with hk | hk
      · exact h.up k (Or.inr (Or.inr (Or.inr (Or.inr (Or.inr (hf.own k hk o))))))
      · omega
theorem Clm.cells (h : Clm B w n L sv vs f) : w.cell? ⟨L.ci, 0, none⟩ = some (.pointer (some ⟨L.sb, 0, none⟩)) ∧ w.cell? ⟨L.ci, 1, none⟩ = some (.pointer (some ⟨L.hb, 0, none⟩)) := by
  simp [World.cell?, h.box]
/-- a rank from r on that gets a length waits. -/
theorem waits_set {vs : List (Option Int)} {r x : Nat} {d : Int} (hx : x < vs.length) (hr : r ≤ x) : Hp.upd (waits vs r) x (some (x : Int)) = waits (vs.set x (some d)) r := by
  funext z
  unfold Hp.upd waits
  by_cases e : z = (x : Int)
  · subst e
    rw [if_pos rfl, Int.toNat_natCast, List.getElem?_set_self hx]
    simp
    omega
  · rw [if_neg e]
    by_cases hz : 0 ≤ z
    · rw [List.getElem?_set_ne (by omega)]
    · have g : ¬ (r : Int) ≤ z := by omega
      rcases h1 : vs[z.toNat]? with _ | _ | _ <;> rcases h2 : (vs.set x (some d))[z.toNat]? with _ | _ | _ <;> simp [g]
theorem waits_or {vs : List (Option Int)} {r x : Nat} : waits vs r (x : Int) = none ∨ waits vs r (x : Int) = some (x : Int) := by
  cases h : waits vs r (x : Int) with
  | none => exact Or.inl rfl
  | some k => exact Or.inr (by rw [(waits_some h).1])

set_option maxRecDepth 100000 in
set_option maxHeartbeats 4000000 in
theorem reach_calls (r x : Nat) (d : Int) (hx : x < n) (hr : r ≤ x) (h : Clm B w n L sv vs (waits vs r)) (hB : B ≤ w.heap.size) :
    Calls Try.prog 44 #[.pointer (some ⟨L.ci, 0, none⟩), .int .u32 (x : Int), .int .u64 d] w fun e w' => e = .returned (.tuple #[]) ∧ ∃ sv', Clm B w' n L sv' (relax vs x d) (waits (relax vs x d) r) ∧ Fx L sv sv' w w' := by
  have hlen : vs.length = n := h.st.lt.2.2.2.1
  have hn : n ≤ 65536 := h.st.lt.2.2.2.2
  obtain ⟨o, ho⟩ : ∃ o, vs[x]? = some o := ⟨vs[x]'(by omega), List.getElem?_eq_getElem (by omega)⟩
  have HG : Hid (Calls Try.prog 46 #[.pointer (some ⟨L.sb, 0, none⟩), .int .i64 (x : Int)] w fun e w' => e = .returned (St.gotV o) ∧ Below w.heap.size w w') := St.get_in h.st x o ho
  have HC : Hid (Clm B w n L sv vs (waits vs r)) := h
  have x1 : IntKind.i64.wrap (x : Int) = (x : Int) := by rw [IntKind.wrap_i64]; omega
  have x2 : IntKind.u64.wrap (x : Int) = (x : Int) := by rw [IntKind.wrap_u64]; omega
  have HR : Hid (∀ wx, Clm B wx n L sv vs (waits vs r) → B ≤ wx.heap.size → Calls Try.prog 56 #[.pointer (some ⟨L.sb, 0, none⟩), .int .i64 (x : Int), .int .u64 d] wx fun e w' => e = .returned .nilIface ∧ Clm B w' n L sv (vs.set x (some d)) (waits vs r) ∧ Fx L sv sv wx w') := fun wx hx' hB' => (St.set_calls hx'.st x hx d).mono (by
    rintro e w' ⟨rfl, a, b⟩
    obtain ⟨p, q⟩ := hx'.stamped a b
    exact ⟨rfl, p, q⟩)
  have HP : Hid (∀ wx, Clm B wx n L sv (vs.set x (some d)) (waits vs r) → B ≤ wx.heap.size → Calls Try.prog 57 #[.pointer (some ⟨L.hb, 0, none⟩), .int .u32 (x : Int), .int .u64 (x : Int)] wx fun e w' => e = .returned .nilIface ∧ ∃ sv', Clm B w' n L sv' (vs.set x (some d)) (waits (vs.set x (some d)) r) ∧ Fx L sv sv' wx w') := fun wx hx' hB' => (Hp.push_own hx'.hp x hx waits_or).mono (by
    rintro e w' ⟨rfl, sv', a, b⟩
    rw [waits_set (d := d) (by omega) hr] at a
    obtain ⟨p, q⟩ := hx'.heaped a b hB'
    exact ⟨rfl, sv', p, q⟩)
  have HB : Hid (B ≤ w.heap.size) := hB
  obtain ⟨c0, c1⟩ := h.cells
  clear h hB
  by_cases hbet : relax vs x d = vs.set x (some d) ∧ (o = none ∨ ∃ k, o = some k ∧ d < k)
  · obtain ⟨e1, e2⟩ := hbet
    have HE : Hid (relax vs x d = vs.set x (some d)) := e1
    clear e1
    have hgot : ∃ (kv : Int) (bb : Bool), St.gotV o = .tuple #[.int .u64 kv, .bool bb] ∧ (bb = false ∨ (bb = true ∧ d < kv)) := by
      rcases e2 with rfl | ⟨k, rfl, hk⟩
      · exact ⟨0, false, rfl, Or.inl rfl⟩
      · exact ⟨k, true, rfl, Or.inr ⟨rfl, hk⟩⟩
    obtain ⟨kv, bb, hgv, hcase⟩ := hgot
    rw [hgv] at HG
    clear e2 hgv ho
    go_enter Try.func44, Try.ntmps44
    go_wp2_with fail
    refine HG.out.mono ?_
    rintro e w1 ⟨rfl, hb1⟩
    have HC1 : Hid (Clm B w1 n L sv vs (waits vs r)) := HC.out.below hb1
    have HB1 : Hid (B ≤ w1.heap.size ∧ Fx L sv sv w w1) := ⟨Nat.le_trans HB.out hb1.size, Fx.of_below hb1⟩
    clear hb1 c0 c1
    obtain ⟨c0, c1⟩ := HC1.out.cells
    have tail : ∀ (_ : True), True := fun _ => trivial
    rcases hcase with rfl | ⟨rfl, hlt⟩
    all_goals
      go_wp2_with fail
      refine (HR.out w1 HC1.out HB1.out.1).mono ?_
      rintro e w2 ⟨rfl, hC2, hF2⟩
      have HC2 : Hid (Clm B w2 n L sv (vs.set x (some d)) (waits vs r)) := hC2
      have HB2 : Hid (B ≤ w2.heap.size ∧ Fx L sv sv w w2) := ⟨Nat.le_trans HB1.out.1 hF2.size, HB1.out.2.trans hF2⟩
      clear hC2 hF2 c0 c1
      obtain ⟨c0, c1⟩ := HC2.out.cells
      go_wp2_with fail
      refine (HP.out w2 HC2.out HB2.out.1).mono ?_
      rintro e w3 ⟨rfl, sv', hC3, hF3⟩
      have HC3 : Hid (Clm B w3 n L sv' (vs.set x (some d)) (waits (vs.set x (some d)) r) ∧ Fx L sv sv' w w3) := ⟨hC3, HB2.out.2.trans hF3⟩
      clear hC3 hF3 c0 c1
      go_wp2
      exact bodyPost_end (v := .tuple #[]) (by simp [results, Try.results44]) rfl ⟨rfl, sv', by rw [HE.out]; exact HC3.out.1, HC3.out.2⟩
  · have hno : ∃ k, o = some k ∧ ¬ d < k ∧ relax vs x d = vs := by
      unfold relax at hbet ⊢
      rw [ho] at hbet ⊢
      cases o with
      | none => simp at hbet
      | some k =>
        by_cases hk : d < k
        · simp [hk] at hbet
        · exact ⟨k, rfl, hk, by simp [hk]⟩
    obtain ⟨k, rfl, hk, e1⟩ := hno
    have HE : Hid (relax vs x d = vs) := e1
    have HG' : Hid (Calls Try.prog 46 #[.pointer (some ⟨L.sb, 0, none⟩), .int .i64 (x : Int)] w fun e w' => e = .returned (.tuple #[.int .u64 k, .bool true]) ∧ Below w.heap.size w w') := HG
    clear hbet e1 ho HG
    go_enter Try.func44, Try.ntmps44
    go_wp2_with fail
    refine HG'.out.mono ?_
    rintro e w1 ⟨rfl, hb1⟩
    have HC1 : Hid (Clm B w1 n L sv vs (waits vs r) ∧ Fx L sv sv w w1) := ⟨HC.out.below hb1, Fx.of_below hb1⟩
    clear hb1 c0 c1
    go_wp2
    exact bodyPost_end (v := .tuple #[]) (by simp [results, Try.results44]) rfl ⟨rfl, sv, by rw [HE.out]; exact HC1.out.1, HC1.out.2⟩
end Go.Proofs.Ytlehlghagddogaa.Cb

namespace Go.Proofs.Ytlehlghagddogaa.Cb
open Go.RowKit Go.Extern Go.Shelf Hi

attribute [local go_sem] Oper.semAt_some

theorem ls_cut {w : World} {lo so : Option Addr} {lc : Nat} {F : List Nat} {Ls : List Lk} {r : Nat} (hF : FOk F Ls.length) (hr : r + 1 < F.length) (hls : HasLs w (.slice lo Ls.length lc) Ls) (hso : nth F r < nth F (r + 1) → ∀ b off, lo = some ⟨b, off, none⟩ → so = some ⟨b, off + nth F r * 4, none⟩) :
    (rowL F Ls r).length = nth F (r + 1) - nth F r ∧ HasLs w (.slice so (nth F (r + 1) - nth F r) (lc - nth F r)) (rowL F Ls r) := by
  have h1 := hF.atmost (a := r + 1) hr
  have h2 := hF.le r hr
  have hcap := hls.cap
  have hl : (rowL F Ls r).length = nth F (r + 1) - nth F r := by
    unfold rowL
    rw [List.length_take, List.length_drop]
    omega
  refine ⟨hl, so, lc - nth F r, by rw [hl], by rw [hl]; omega, fun j l hj => ?_⟩
  have hjl := (List.getElem?_eq_some_iff.1 hj).1
  rw [hl] at hjl
  unfold rowL at hj
  rw [List.getElem?_take, if_pos hjl, List.getElem?_drop] at hj
  obtain ⟨hok, b, off, e1, hb, g0, g1, g2, g3⟩ := hls.at hj
  refine ⟨hok, b, off + nth F r * 4, hso (by omega) b off e1, hb, ?_, ?_, ?_, ?_⟩
  · rw [show off + nth F r * 4 + j * 4 = off + (nth F r + j) * 4 by omega]; exact g0
  · rw [show off + nth F r * 4 + j * 4 + 1 = off + (nth F r + j) * 4 + 1 by omega]; exact g1
  · rw [show off + nth F r * 4 + j * 4 + 2 = off + (nth F r + j) * 4 + 2 by omega]; exact g2
  · rw [show off + nth F r * 4 + j * 4 + 3 = off + (nth F r + j) * 4 + 3 by omega]; exact g3

set_option maxRecDepth 100000 in
set_option maxHeartbeats 4000000 in
theorem at_calls (fo lo : Option Addr) (fc lc : Nat) (F : List Nat) (Ls : List Lk) (r : Nat) (w : World) (hF : FOk F Ls.length) (hr : r + 1 < F.length) (hn : F.length ≤ 65537) (hfs : HasWs w (.slice fo F.length fc) F) (hls : HasLs w (.slice lo Ls.length lc) Ls) :
    Calls Try.prog 47 #[.agg #[.slice fo F.length fc, .slice lo Ls.length lc], .int .u32 (r : Int)] w fun e w' => ∃ so c, e = .returned (.slice so (rowL F Ls r).length c) ∧ (∀ wx, HasLs wx (.slice lo Ls.length lc) Ls → HasLs wx (.slice so (rowL F Ls r).length c) (rowL F Ls r)) ∧ Below w.heap.size w w' := by
  obtain ⟨fb, foff, e1, _, hc⟩ := hfs.cells (by omega)
  subst e1
  have sx := hfs.small r
  have sy := hfs.small (r + 1)
  have hxy := hF.le r hr
  have hyL := hF.atmost (a := r + 1) hr
  have hcapL := hls.cap
  obtain ⟨z, hz⟩ : ∃ z, w.heap.size = z := ⟨_, rfl⟩
  obtain ⟨W0, hW0⟩ : ∃ W0, w.alloc (.cells #[.slice (some ⟨fb, foff, none⟩) F.length fc, .slice lo Ls.length lc] 55) = W0 := ⟨_, rfl⟩
  have hB : Below w.heap.size w W0 := by rw [← hW0]; exact (Below.refl _ _).alloc (Nat.le_refl _) _
  have g1 : W0.heap[z]? = some (.cells #[.slice (some ⟨fb, foff, none⟩) F.length fc, .slice lo Ls.length lc] 55) := by rw [← hW0, ← hz]; exact heap_newW _ _
  have hfs0 := hfs.keep hB
  obtain ⟨fb', foff', e2, _, hc0⟩ := hfs0.cells (by omega)
  cases e2
  have ca := hc0 r (by omega)
  have cb := hc0 (r + 1) (by omega)
  obtain ⟨d0, d1⟩ : W0.cell? ⟨z, 0, none⟩ = some (.slice (some ⟨fb, foff, none⟩) F.length fc) ∧ W0.cell? ⟨z, 1, none⟩ = some (.slice lo Ls.length lc) := by simp [World.cell?, g1]
  obtain ⟨so, hso, hcut⟩ := cut_lks lo Ls.length lc (nth F r) (nth F (r + 1)) hxy (by omega)
  have HE : Hid (∀ wx, Below W0.heap.size W0 wx → (rowL F Ls r).length = nth F (r + 1) - nth F r ∧ (∀ wy, HasLs wy (.slice lo Ls.length lc) Ls → HasLs wy (.slice so (nth F (r + 1) - nth F r) (lc - nth F r)) (rowL F Ls r)) ∧ Below w.heap.size w wx) := fun wx hx => by
    have hb2 : Below w.heap.size w wx := hB.trans (hx.mono hB.size)
    have g := ls_cut hF hr (hls.keep hb2) hso
    exact ⟨g.1, fun wy hy => (ls_cut hF hr hy hso).2, hb2⟩
  have HW0 : Hid (w.alloc (.cells #[.slice (some ⟨fb, foff, none⟩) F.length fc, .slice lo Ls.length lc] 55) = W0) := hW0
  obtain ⟨N, hN⟩ : ∃ N, F.length = N := ⟨_, rfl⟩
  have r1 : (r : Int) < (N : Int) := by omega
  have r2 : (r : Int) + 1 < (N : Int) := by omega
  have x1 : IntKind.u32.wrap ((r : Int) + 1) = (r : Int) + 1 := by rw [IntKind.wrap_u32]; omega
  obtain ⟨x, hx⟩ : ∃ x, nth F r = x := ⟨_, rfl⟩
  obtain ⟨y, hy⟩ : ∃ y, nth F (r + 1) = y := ⟨_, rfl⟩
  rw [hx, hy] at hcut HE
  rw [hx] at ca
  rw [hy] at cb
  rw [hN] at d0 HW0
  rw [hN]
  clear hso hfs hls hF hB g1 hc hc0 hfs0 sx sy hxy hyL hcapL hx hy hN hW0
  go_enter Try.func47, Try.ntmps47
  go_upto_region 1 with fail
  rw [HW0.out]
  go_quiet (fail)
  go_wp2
  go_ret
  have hq : Below W0.heap.size W0 (W0.drewN nq) := ⟨rfl, rfl, rfl, Nat.le_refl _, fun _ _ => rfl⟩
  obtain ⟨a1, a2, a3⟩ := HE.out _ hq
  exact ⟨so, lc - x, by rw [a1]; rfl, by rw [a1]; exact a2, a3⟩

/-- the least rank that waits is taken out. -/
theorem waits_pop {vs : List (Option Int)} {r x : Nat} (hr : r ≤ x) (hn : ∀ y, r ≤ y → y < x → waits vs r (y : Int) = none) : Hp.upd (waits vs r) x none = waits vs (x + 1) := by
  funext z
  unfold Hp.upd
  by_cases e : z = (x : Int)
  · subst e
    rw [if_pos rfl]
    unfold waits
    rw [Int.toNat_natCast]
    split
    · rw [if_neg (by omega)]
    · rfl
  · rw [if_neg e]
    rcases Int.lt_or_le z (x : Int) with h1 | h1
    · have e1 : waits vs (x + 1) z = none := by
        unfold waits
        split
        · rw [if_neg (by omega)]
        · rfl
      rw [e1]
      rcases Int.lt_or_le z (r : Int) with h2 | h2
      · unfold waits
        split
        · rw [if_neg (by omega)]
        · rfl
      · obtain ⟨y, rfl⟩ : ∃ y : Nat, z = (y : Int) := ⟨z.toNat, by omega⟩
        exact hn y (by omega) (by omega)
    · unfold waits
      split
      · rw [if_pos (by omega), if_pos (by omega)]
      · rfl
theorem waits_unk {vs : List (Option Int)} {r y : Nat} (hr : r ≤ y) (h : waits vs r (y : Int) = none) : vs[y]? = some none ∨ vs[y]? = none := by
  rcases waits_none h with g | g
  · omega
  · exact g
variable {B : Nat} {w w' : World} {n : Nat} {L : CP} {sv sv' : Value} {vs vs' : List (Option Int)} {f f' : Int → Option Int}
/-- taken out, the least rank that waits; or none waits. -/
theorem pop_calls (r : Nat) (h : Clm B w n L sv vs (waits vs r)) (hB : B ≤ w.heap.size) :
    Calls Try.prog 45 #[.pointer (some ⟨L.hb, 0, none⟩)] w fun e w' => ∃ sv', Fx L sv sv' w w' ∧
      ((e = .returned (.tuple #[.int .u32 0, .int .u64 0, .bool false]) ∧ (∀ y, r ≤ y → y < n → vs[y]? = some none ∨ vs[y]? = none) ∧ Clm B w' n L sv' vs (waits vs r)) ∨
       (∃ x : Nat, e = .returned (.tuple #[.int .u32 (x : Int), .int .u64 (x : Int), .bool true]) ∧ r ≤ x ∧ x < n ∧ (∃ d, vs[x]? = some (some d)) ∧ (∀ y, r ≤ y → y < x → vs[y]? = some none ∨ vs[y]? = none) ∧ Clm B w' n L sv' vs (waits vs (x + 1)))) := by
  by_cases hall : ∀ d : Nat, d < n → waits vs r (d : Int) = none
  · refine (Hp.pop_none h.hp hall).mono ?_
    rintro e w' ⟨rfl, rfl⟩
    exact ⟨sv, Fx.of_below (Below.refl _ _), Or.inl ⟨rfl, fun y h1 h2 => waits_unk h1 (hall y h2), h⟩⟩
  · obtain ⟨d0, hd0, hf⟩ : ∃ d0 : Nat, d0 < n ∧ waits vs r (d0 : Int) ≠ none := by
      by_cases hex : ∃ d0 : Nat, d0 < n ∧ waits vs r (d0 : Int) ≠ none
      · exact hex
      · exact absurd (fun d hd => by
          by_cases e : waits vs r (d : Int) = none
          · exact e
          · exact absurd ⟨d, hd, e⟩ hex) hall
    refine (Hp.pop_some h.hp d0 hd0 hf).mono ?_
    rintro e w' ⟨x, k, rfl, ⟨hx, hfx, hleast⟩, sv', hH, hF⟩
    obtain ⟨rfl, hrx, d, hd⟩ := waits_some hfx
    have hlow : ∀ y, r ≤ y → y < x → waits vs r (y : Int) = none := fun y h1 h2 => by
      cases e : waits vs r (y : Int) with
      | none => rfl
      | some j =>
        obtain ⟨rfl, _, _⟩ := waits_some e
        have := hleast y _ (by omega) e
        unfold Hp.ltT at this
        simp at this
        omega
    rw [waits_pop hrx hlow] at hH
    obtain ⟨p, q⟩ := h.heaped hH hF hB
    exact ⟨sv', q, Or.inr ⟨x, rfl, hrx, hx, ⟨d, hd⟩, fun y h1 h2 => waits_unk h1 (hlow y h1 h2), p⟩⟩

/-- what is seen, in cells. -/
def snv (l : List (Nat × Int × Bool)) : List Value := l.flatMap fun x => [.int .i64 (x.1 : Int), .int .u64 x.2.1, .bool x.2.2]
theorem snv_append (l r : List (Nat × Int × Bool)) : snv (l ++ r) = snv l ++ snv r := by simp [snv]
theorem snv_one (l : List (Nat × Int × Bool)) : ∀ u ∈ snv l, u.oneCell' = true := by
  intro u hu
  unfold snv at hu
  obtain ⟨x, _, hx⟩ := List.mem_flatMap.1 hu
  simp at hx
  rcases hx with rfl | rfl | rfl <;> rfl
theorem infoSn : (Try.prog.info? 38).map (fun i => (i.zero, i.size, i.bytes)) = some (some (.agg #[.int .i64 0, .int .u64 0, .bool false]), 3, 24) := by kernel_rfl
/-- a block of another kind is none of the climber's. -/
theorem Clm.off (h : Clm B w n L sv vs f) {k : Nat} {c : Array Value} {T : TypeId} (hk : w.heap[k]? = some (.cells c T)) (hT : T = 38 ∨ T = 55 ∨ T = 64 ∨ T = 25) : ¬ L.Own sv k := by
  obtain ⟨age, held, ps, hm, _⟩ := h.st
  obtain ⟨ps', wh, hm', _⟩ := h.hp
  rintro (rfl | rfl | rfl | rfl | rfl | o)
  · rw [h.box] at hk; cases hk; revert hT; decide
  · rw [hm.box] at hk; cases hk; revert hT; decide
  · rw [hm.row] at hk; cases hk; revert hT; decide
  · rw [hm'.box] at hk; cases hk; revert hT; decide
  · rw [hm'.whr] at hk; cases hk; revert hT; decide
  · rcases hm'.row.2 with ⟨e, _⟩ | ⟨g, cap, cur, e, _, hh, _⟩
    · rw [e] at o; cases o
    · rw [e] at o
      simp [Value.ownBlock] at o
      subst o
      rw [hh] at hk; cases hk; revert hT; decide
theorem Clm.offRow (h : Clm B w n L sv vs f) {B' m : Nat} {ov : Value} {xs : List Value} (ho : w.ownsRow B' 38 3 ov m xs) : ∀ k, ov.ownBlock = some k → ¬ L.Own sv k := by
  intro k e
  rcases ho.2 with ⟨e1, _⟩ | ⟨g, cap, cur, e1, _, hh, _⟩
  · rw [e1] at e; cases e
  · rw [e1] at e
    simp [Value.ownBlock] at e
    subst e
    exact h.off hh (Or.inl rfl)
/-- what a climber's calls leave of a list, and of a box. -/
theorem Fx.row (h : Clm B w n L sv vs f) (g : Fx L sv sv' w w') {B' m : Nat} {ov : Value} {xs : List Value} (ho : w.ownsRow B' 38 3 ov m xs) : w'.ownsRow B' 38 3 ov m xs :=
  own_keep ho fun k _ e hh => (g.block k (some_lt hh) (h.offRow ho k e)).trans hh
theorem Fx.box (h : Clm B w n L sv vs f) (g : Fx L sv sv' w w') {k : Nat} {c : Array Value} (hk : w.heap[k]? = some (.cells c 55)) : w'.heap[k]? = some (.cells c 55) :=
  (g.block k (some_lt hk) (h.off hk (Or.inr (Or.inl rfl)))).trans hk
/-- a list grows: the climber stays. -/
theorem Clm.grown (h : Clm B w n L sv vs f) {B' m : Nat} {ov : Value} {xs : List Value} (ho : w.ownsRow B' 38 3 ov m xs) (hg : w.grownBy w' ov.ownBlock) : Clm B w' n L sv vs f :=
  h.keep fun k hk ho' => hg.block k hk (fun e => h.offRow ho k e.symm ho')
end Go.Proofs.Ytlehlghagddogaa.Cb

namespace Go.Proofs.Ytlehlghagddogaa.Cb
open Go.RowKit Go.Extern Go.Shelf Hi

attribute [local go_sem] Oper.semAt_some

def nos (x : Nat × Int) : Nat × Int × Bool := (x.1, x.2, false)
theorem waits_empty (n r : Nat) : waits (List.replicate n none) r = fun _ => none := by
  funext z
  unfold waits
  split
  · rename_i d hd
    rw [List.getElem?_replicate] at hd
    split at hd <;> simp at hd
  · rfl
theorem relax_start {n s : Nat} (hs : s < n) : relax (List.replicate n none) s 0 = start n s := by
  unfold relax start
  rw [List.getElem?_replicate, if_pos hs]
theorem low_start (n s : Nat) : Low (start n s) := by
  intro x k hk
  unfold start at hk
  by_cases e : s = x
  · subst e
    have hlt := (List.getElem?_eq_some_iff.1 hk).1
    rw [List.getElem?_set_self (by simpa using hlt)] at hk
    obtain rfl : 0 = k := by simpa using hk
    exact ⟨Int.le_refl _, by omega⟩
  · rw [List.getElem?_set_ne e, List.getElem?_replicate] at hk
    split at hk <;> simp at hk
/-- while reached goes on: x is the rank that was taken out, if bb. -/
structure LI (row : Nat → List Lk) (B : Nat) (w : World) (n s : Nat) (L : CP) (z : Nat) (cs : Array Value) (x : Nat) (bb : Bool) (vs : List (Option Int)) (out : List (Nat × Int)) (sv ov : Value) (wr : World) : Prop where
  clm : ∃ r, Clm B wr n L sv vs (waits vs r) ∧ (bb = true → r = x + 1)
  own : wr.ownsRow B 38 3 ov out.length (snv (out.map nos))
  box : wr.heap[z]? = some (.cells cs 55)
  bel : Below B w wr
  low : Low vs
  ran : run row n 0 (start n s) [] = if bb = true then run row (n - x) x vs out else (vs, out)
  hit : bb = true → x < n ∧ out.length ≤ x ∧ ∃ d, vs[x]? = some (some d)
variable {row : Nat → List Lk} {B : Nat} {w wr : World} {n s : Nat} {L : CP} {z : Nat} {cs : Array Value} {vs : List (Option Int)} {out : List (Nat × Int)} {sv ov : Value}
theorem popL_calls (r : Nat) (hc : Clm B wr n L sv vs (waits vs r)) (hB : B ≤ w.heap.size) (ho : wr.ownsRow B 38 3 ov out.length (snv (out.map nos))) (hz : wr.heap[z]? = some (.cells cs 55)) (hb : Below B w wr) (hl : Low vs) (hr : r ≤ n) (hol : out.length ≤ r) (hran : run row n 0 (start n s) [] = run row (n - r) r vs out) :
    Calls Try.prog 45 #[.pointer (some ⟨L.hb, 0, none⟩)] wr fun e w' => ∃ (x : Nat) (kv : Int) (bb : Bool) (sv' : Value), e = .returned (.tuple #[.int .u32 (x : Int), .int .u64 kv, .bool bb]) ∧ LI row B w n s L z cs x bb vs out sv' ov w' ∧ (bb = true → r ≤ x) := by
  have hB' : B ≤ wr.heap.size := Nat.le_trans hB hb.size
  refine (pop_calls r hc hB').mono ?_
  rintro e w' ⟨sv', hF, hh⟩
  have o' := hF.row hc ho
  have z' := hF.box hc hz
  have b' : Below B w w' := hb.trans (hF.below hc hB')
  rcases hh with ⟨rfl, hn, hC⟩ | ⟨x, rfl, hrx, hx, ⟨d, hd⟩, hn, hC⟩
  · refine ⟨0, 0, false, sv', rfl, ⟨⟨r, hC, fun e => by cases e⟩, o', z', b', hl, ?_, fun e => by cases e⟩, fun e => by cases e⟩
    rw [hran, run_end row hr hn]
    rfl
  · refine ⟨x, x, true, sv', rfl, ⟨⟨x + 1, hC, fun _ => rfl⟩, o', z', b', hl, ?_, fun _ => ⟨hx, by omega, d, hd⟩⟩, fun _ => hrx⟩
    rw [hran, run_skip row (x - r) (n - r) r (by omega) (fun y h1 h2 => hn y h1 (by omega)), if_pos rfl]
    congr 1 <;> omega
/-- while the links of a rank are gone through. -/
structure IL (B : Nat) (w : World) (n : Nat) (L : CP) (z : Nat) (cs : Array Value) (x : Nat) (vs : List (Option Int)) (out : List (Nat × Int)) (ov : Value) (wr : World) : Prop where
  clm : ∃ sv, Clm B wr n L sv vs (waits vs (x + 1))
  own : wr.ownsRow B 38 3 ov out.length (snv (out.map nos))
  box : wr.heap[z]? = some (.cells cs 55)
  bel : Below B w wr
  low : Low vs
theorem IL.below {x : Nat} {wn : World} (h : IL B w n L z cs x vs out ov wr) (hb : Below wr.heap.size wr wn) (hB : B ≤ wr.heap.size) : IL B w n L z cs x vs out ov wn := by
  obtain ⟨sv, hc⟩ := h.clm
  exact ⟨⟨sv, hc.below hb⟩, own_keep h.own fun k _ _ hh => (hb.block k (some_lt hh)).trans hh, (hb.block _ (some_lt h.box)).trans h.box, h.bel.trans (hb.mono hB), h.low⟩
theorem reachL_calls (x y : Nat) (d : Int) (hy : x + 1 ≤ y) (hyn : y < n) (hd : 0 ≤ d ∧ d ≤ (y : Int) * 140737488355328) (h : IL B w n L z cs x vs out ov wr) (hB : B ≤ w.heap.size) :
    Calls Try.prog 44 #[.pointer (some ⟨L.ci, 0, none⟩), .int .u32 (y : Int), .int .u64 d] wr fun e w' => e = .returned (.tuple #[]) ∧ IL B w n L z cs x (relax vs y d) out ov w' := by
  have hB' : B ≤ wr.heap.size := Nat.le_trans hB h.bel.size
  obtain ⟨sv, hc⟩ := h.clm
  refine (reach_calls (x + 1) y d hyn hy hc hB').mono ?_
  rintro e w' ⟨rfl, sv', hC, hF⟩
  exact ⟨rfl, ⟨sv', hC⟩, hF.row hc h.own, hF.box hc h.box, h.bel.trans (hF.below hc hB'), low_relax h.low hd⟩

theorem il_grown {x : Nat} {d : Int} {w3 w5 : World} {v5 : Value} (h : IL B w n L z cs x vs out ov w3) (hB : B ≤ w3.heap.size) (ho : w5.ownsRow B 38 3 v5 (out.length + 1) (snv (out.map nos) ++ snv [(x, d, false)])) (hg : (w3.alloc (.cells (snv [(x, d, false)]).toArray 38)).grownBy w5 ov.ownBlock) : IL B w n L z cs x vs (out ++ [(x, d)]) v5 w5 := by
  obtain ⟨sv, hc⟩ := h.clm
  have hb : Below w3.heap.size w3 (w3.alloc (.cells (snv [(x, d, false)]).toArray 38)) := (Below.refl _ _).alloc (Nat.le_refl _) _
  have h' := h.below hb hB
  obtain ⟨sv', hc'⟩ := h'.clm
  refine ⟨⟨sv', hc'.grown h'.own hg⟩, ?_, ?_, ?_, h.low⟩
  · have e : snv (out.map nos) ++ snv [(x, d, false)] = snv ((out ++ [(x, d)]).map nos) := by rw [List.map_append, snv_append]; rfl
    rw [e] at ho
    rw [List.length_append]
    exact ho
  · refine (hg.block z (some_lt h'.box) (fun e => ?_)).trans h'.box
    rcases h'.own.2 with ⟨e1, _⟩ | ⟨g, cap, cur, e1, _, hh, _⟩
    · rw [e1] at e; cases e
    · rw [e1] at e
      simp [Value.ownBlock] at e
      subst e
      have := h'.box
      rw [hh] at this
      simp at this
  · exact below_grown h'.bel h'.own hg (Nat.le_trans hB hb.size)
theorem il_own {x : Nat} {d : Int} {wr : World} {v : Value} (h : IL B w n L z cs x vs (out ++ [(x, d)]) v wr) : wr.ownsRow B 38 3 v (out.length + 1) (snv ((out ++ [(x, d)]).map nos)) := by
  have := h.own
  rw [List.length_append] at this
  exact this

theorem il_box {x : Nat} {wr : World} {v a0 a1 : Value} (h : IL B w n L z #[a0, a1] x vs out v wr) : wr.cell? ⟨z, 0, none⟩ = some a0 ∧ wr.cell? ⟨z, 1, none⟩ = some a1 := by simp [World.cell?, h.box]

set_option maxRecDepth 100000 in
set_option maxHeartbeats 4000000 in
theorem reached_calls (fo lo : Option Addr) (fc lc : Nat) (F : List Nat) (Ls : List Lk) (h : Clm B w n L sv (List.replicate n none) (fun _ => none)) (hB : B ≤ w.heap.size) (hs : s < n) (hn : n ≤ 65536) (hF : FOk F Ls.length) (hFn : F.length = n + 1) (hLs : Ls.length ≤ 1048576) (hM : ∀ wx, Below B w wx → HasWs wx (.slice fo F.length fc) F ∧ HasLs wx (.slice lo Ls.length lc) Ls) (hrow : ∀ r, r < n → ∀ l ∈ rowL F Ls r, r < l.hd ∧ l.hd < n ∧ l.wt ≤ 140737488355328) :
    Calls Try.prog 29 #[.pointer (some ⟨L.ci, 0, none⟩), .int .u32 (s : Int), .agg #[.slice fo F.length fc, .slice lo Ls.length lc]] w fun e w' => ∃ (sv' : Value) (mo : Option Addr) (mc r : Nat) (vs : List (Option Int)) (out : List (Nat × Int)), run (rowL F Ls) n 0 (start n s) [] = (vs, out) ∧ e = .returned (.slice mo out.length mc) ∧ Clm B w' n L sv' vs (waits vs r) ∧ w'.ownsRow B 38 3 (.slice mo out.length mc) out.length (snv (out.map nos)) ∧ Below B w w' ∧ Low vs := by
  obtain ⟨i0, hi9, hzz⟩ := Option.map_eq_some_iff.1 infoSn
  simp only [Prod.mk.injEq] at hzz
  have HI : Hid (Try.prog.info? 38 = some i0 ∧ i0.zero = some (.agg #[.int .i64 0, .int .u64 0, .bool false]) ∧ i0.size = 3 ∧ i0.bytes = 24) := ⟨hi9, hzz⟩
  obtain ⟨z, hz⟩ : ∃ z, w.heap.size = z := ⟨_, rfl⟩
  obtain ⟨W0, hW0⟩ : ∃ W0, w.alloc (.cells #[.slice fo F.length fc, .slice lo Ls.length lc] 55) = W0 := ⟨_, rfl⟩
  have hb0 : Below w.heap.size w W0 := by rw [← hW0]; exact (Below.refl _ _).alloc (Nat.le_refl _) _
  have g1 : W0.heap[z]? = some (.cells #[.slice fo F.length fc, .slice lo Ls.length lc] 55) := by rw [← hW0, ← hz]; exact heap_newW _ _
  have hC0 : Clm B W0 n L sv (List.replicate n none) (waits (List.replicate n none) 0) := by rw [waits_empty]; exact h.below hb0
  have HR0 : Hid (Calls Try.prog 44 #[.pointer (some ⟨L.ci, 0, none⟩), .int .u32 (s : Int), .int .u64 0] W0 fun e w' => e = .returned (.tuple #[]) ∧ ∃ sv', Clm B w' n L sv' (start n s) (waits (start n s) 0) ∧ Below B w w' ∧ w'.heap[z]? = some (.cells #[.slice fo F.length fc, .slice lo Ls.length lc] 55)) := by
    have g := reach_calls 0 s 0 hs (Nat.zero_le _) hC0 (Nat.le_trans hB hb0.size)
    rw [relax_start hs] at g
    refine g.mono ?_
    rintro e w' ⟨rfl, sv', a, b⟩
    exact ⟨rfl, sv', a, (hb0.mono hB).trans (b.below hC0 (Nat.le_trans hB hb0.size)), b.box hC0 g1⟩
  have HM : Hid (∀ wx, Below B w wx → HasWs wx (.slice fo F.length fc) F ∧ HasLs wx (.slice lo Ls.length lc) Ls) := hM
  have HF : Hid (FOk F Ls.length ∧ F.length = n + 1 ∧ Ls.length ≤ 1048576) := ⟨hF, hFn, hLs⟩
  have HRW : Hid (∀ r, r < n → ∀ l ∈ rowL F Ls r, r < l.hd ∧ l.hd < n ∧ l.wt ≤ 140737488355328) := hrow
  have HB : Hid (B ≤ w.heap.size) := hB
  have HW0 : Hid (w.alloc (.cells #[.slice fo F.length fc, .slice lo Ls.length lc] 55) = W0) := hW0
  have HPOP : Hid (∀ (wr : World) (r : Nat) (sv ov : Value) (vs : List (Option Int)) (out : List (Nat × Int)), Clm B wr n L sv vs (waits vs r) → wr.ownsRow B 38 3 ov out.length (snv (out.map nos)) → wr.heap[z]? = some (.cells #[.slice fo F.length fc, .slice lo Ls.length lc] 55) → Below B w wr → Low vs → r ≤ n → out.length ≤ r → run (rowL F Ls) n 0 (start n s) [] = run (rowL F Ls) (n - r) r vs out → Calls Try.prog 45 #[.pointer (some ⟨L.hb, 0, none⟩)] wr fun e w' => ∃ (x : Nat) (kv : Int) (bb : Bool) (sv' : Value), e = .returned (.tuple #[.int .u32 (x : Int), .int .u64 kv, .bool bb]) ∧ LI (rowL F Ls) B w n s L z #[.slice fo F.length fc, .slice lo Ls.length lc] x bb vs out sv' ov w' ∧ (bb = true → r ≤ x)) := fun wr r sv ov vs out a b c d e f g i => popL_calls r a hB b c d e f g i
  obtain ⟨c0, c1⟩ := hC0.cells
  clear hi9 hzz h hb0 g1 hC0 hM hF hFn hLs hrow hB hW0
  go_enter Try.func29, Try.ntmps29
  go_wp2_with fail
  rw [HW0.out]
  refine HR0.out.mono ?_
  rintro e w1 ⟨rfl, sv1, hC1, hb1, hz1⟩
  have H1 : Hid (Clm B w1 n L sv1 (start n s) (waits (start n s) 0) ∧ Below B w w1 ∧ w1.heap[z]? = some (.cells #[.slice fo F.length fc, .slice lo Ls.length lc] 55)) := ⟨hC1, hb1, hz1⟩
  clear c0 c1 hb1 hz1
  obtain ⟨c0, c1⟩ := hC1.cells
  clear hC1
  go_wp2_with fail
  refine (HPOP.out w1 0 sv1 (.slice none 0 0) (start n s) [] H1.out.1 (World.ownsRow_nil _ _ _ _) H1.out.2.2 H1.out.2.1 (low_start n s) (Nat.zero_le _) (Nat.zero_le _) rfl).mono ?_
  rintro e w2 ⟨x, kv, bb, sv2, rfl, hL2, _⟩
  have HL2 : Hid (LI (rowL F Ls) B w n s L z #[.slice fo F.length fc, .slice lo Ls.length lc] x bb (start n s) [] sv2 (.slice none 0 0) w2) := hL2
  clear hL2 c0 c1
  go_wp2_with fail
  go_loopw [7, 8, 10] (fun ov rv bv wr => ∃ (x : Nat) (bb : Bool) (vs : List (Option Int)) (out : List (Nat × Int)) (so : Option Addr) (sc : Nat), ov = .slice so out.length sc ∧ rv = .int .u32 (x : Int) ∧ bv = .bool bb ∧ Hid (∃ sv, LI (rowL F Ls) B w n s L z #[.slice fo F.length fc, .slice lo Ls.length lc] x bb vs out sv (.slice so out.length sc) wr)) (fun _ rv bv _ => match bv with | .bool true => n + 1 - (intOf rv).toNat | _ => 0)
  case atStart => exact ⟨x, bb, start n s, [], none, 0, rfl, rfl, rfl, sv2, HL2.out⟩
  case round =>
    obtain ⟨x, bb, vs, out, so, sc, rfl, rfl, rfl, HL⟩ := hrel
    cases bb with
    | false =>
      go_wp2
      go_ret
      obtain ⟨sv3, hL⟩ := HL.out
      obtain ⟨r, hC, _⟩ := hL.clm
      have hr := hL.ran
      simp only [Bool.false_eq_true, if_false] at hr
      exact ⟨sv3, so, sc, r, vs, out, hr, rfl, hC, hL.own, hL.bel, hL.low⟩
    | true =>
      obtain ⟨sv3, hL⟩ := HL.out
      obtain ⟨r, hC, hr⟩ := hL.clm
      have hr' := hr rfl
      subst hr'
      obtain ⟨hxn, hol, d, hd⟩ := hL.hit rfl
      have hlow := hL.low x d hd
      have HRAN : Hid (run (rowL F Ls) n 0 (start n s) [] = run (rowL F Ls) (n - (x + 1)) (x + 1) (relaxs d (rowL F Ls x) vs) (out ++ [(x, d)])) := by
        have g := hL.ran
        rw [if_pos rfl, run_take (rowL F Ls) (Nat.le_refl x) hxn hd (fun y h1 h2 => by omega)] at g
        exact g
      have HG : Hid (Calls Try.prog 46 #[.pointer (some ⟨L.sb, 0, none⟩), .int .i64 (x : Int)] wr fun e w' => e = .returned (.tuple #[.int .u64 d, .bool true]) ∧ Below wr.heap.size wr w') := St.get_in hC.st x (some d) hd
      have HIL : Hid (IL B w n L z #[.slice fo F.length fc, .slice lo Ls.length lc] x vs out (.slice so out.length sc) wr) := ⟨⟨sv3, hC⟩, hL.own, hL.box, hL.bel, hL.low⟩
      have x1 : IntKind.i64.wrap (x : Int) = (x : Int) := by rw [IntKind.wrap_i64]; omega
      obtain ⟨c0, c1⟩ := hC.cells
      clear hL hC hr hd HL
      go_wp2_with fail
      refine HG.out.mono ?_
      rintro e w3 ⟨rfl, hb3⟩
      have HI3 : Hid (IL B w n L z #[.slice fo F.length fc, .slice lo Ls.length lc] x vs out (.slice so out.length sc) w3) := HIL.out.below hb3 (Nat.le_trans HB.out HIL.out.bel.size)
      have HB3 : Hid (B ≤ w3.heap.size) := Nat.le_trans HB.out HI3.out.bel.size
      clear hb3 c0 c1
      go_wp2_with (first
        | (at_builtin; refine wpList_append_own _ rfl _ _ 29 rfl B 38 i0 (.agg #[.int .i64 0, .int .u64 0, .bool false]) 3 24 Try.underlying29 HI.out.1 HI.out.2.1 HI.out.2.2.1 HI.out.2.2.2 rfl (by decide) _ out.length (snv (out.map nos)) rfl (HI3.out.own.alloc _) ⟨w3.heap.size, 0, none⟩ 1 1 (snv [(x, d, false)]) rfl rfl (new_cells w3 (snv [(x, d, false)]) 38) (snv_one _) (by unfold maxLen; omega) (by omega) (by have := HB3.out; simp; omega) ?_; intro v5 w5 hown5 hgr5 _; have H5 : Hid (IL B w n L z #[.slice fo F.length fc, .slice lo Ls.length lc] x vs (out ++ [(x, d)]) v5 w5) := il_grown HI3.out HB3.out hown5 hgr5; clear hown5 hgr5; obtain ⟨po, pc, hv5⟩ := own_slice (il_own H5.out); subst hv5; obtain ⟨d0, d1⟩ := il_box H5.out)
        | fail)
      have HAT : Hid (Calls Try.prog 47 #[.agg #[.slice fo F.length fc, .slice lo Ls.length lc], .int .u32 (x : Int)] w5 fun e w' => ∃ so c, e = .returned (.slice so (rowL F Ls x).length c) ∧ (∀ wx, HasLs wx (.slice lo Ls.length lc) Ls → HasLs wx (.slice so (rowL F Ls x).length c) (rowL F Ls x)) ∧ Below w5.heap.size w5 w') := at_calls fo lo fc lc F Ls x w5 HF.out.1 (by have := HF.out.2.1; omega) (by have := HF.out.2.1; omega) (HM.out w5 H5.out.bel).1 (HM.out w5 H5.out.bel).2
      refine HAT.out.mono ?_
      rintro e w6 ⟨ro, rc, rfl, hX, hb6⟩
      have HX : Hid (∀ wx, HasLs wx (.slice lo Ls.length lc) Ls → HasLs wx (.slice ro (rowL F Ls x).length rc) (rowL F Ls x)) := hX
      have HI6 : Hid (IL B w n L z #[.slice fo F.length fc, .slice lo Ls.length lc] x (relaxs d ((rowL F Ls x).take 0) vs) (out ++ [(x, d)]) (.slice po (out.length + 1) pc) w6) := H5.out.below hb6 (Nat.le_trans HB.out H5.out.bel.size)
      have HLL : Hid (∀ (j : Nat) (l : Lk), (rowL F Ls x)[j]? = some l → x < l.hd ∧ l.hd < n ∧ l.wt ≤ 140737488355328) := fun j l hj => HRW.out x hxn l (List.mem_of_getElem? hj)
      have hm9 : (rowL F Ls x).length ≤ 1048576 := by
        have := HF.out.2.2
        have h2 : (rowL F Ls x).length ≤ Ls.length := by unfold rowL; rw [List.length_take, List.length_drop]; omega
        omega
      clear hX hb6 d0 d1
      obtain ⟨Rw, hRw⟩ : ∃ Rw, rowL F Ls x = Rw := ⟨_, rfl⟩
      rw [hRw] at HX HI6 HLL hm9 HRAN ⊢
      clear hRw HAT HG HIL HI3 H5
      go_wp2_with fail
      go_loopw [58] (fun iv wr => ∃ j : Nat, j ≤ Rw.length ∧ iv = .int .i64 j ∧ Hid (IL B w n L z #[.slice fo F.length fc, .slice lo Ls.length lc] x (relaxs d (Rw.take j) vs) (out ++ [(x, d)]) (.slice po (out.length + 1) pc) wr)) (fun iv _ => Rw.length - (intOf iv).toNat)
      case atStart => exact ⟨0, Nat.zero_le _, rfl, HI6.out⟩
      case round =>
        obtain ⟨j, hj, rfl, HJ⟩ := hrel
        rcases Nat.lt_or_eq_of_le hj with h1 | h1
        · obtain ⟨l, hl⟩ : ∃ l, Rw[j]? = some l := ⟨Rw[j], List.getElem?_eq_getElem h1⟩
          obtain ⟨q1, q2, q3⟩ := HLL.out j l hl
          obtain ⟨_, b, off, e1, _, g0, g1, g2, g3⟩ := (HX.out wr (HM.out wr HJ.out.bel).2).at hl
          subst e1
          have HT : Hid (relaxs d (Rw.take (j + 1)) vs = relax (relaxs d (Rw.take j) vs) l.hd (d + l.wt)) := by
            show _ = _
            rw [List.take_add_one, hl]
            unfold relaxs
            rw [List.foldl_append]
            rfl
          have i1 : (j : Int) < (Rw.length : Int) := by omega
          have i2 : (0 : Int) ≤ (j : Int) := by omega
          have i3 : IntKind.u64.wrap (d + (l.wt : Int)) = d + (l.wt : Int) := by rw [IntKind.wrap_u64]; omega
          have HRE : Hid (∀ wx, Below wr.heap.size wr wx → Calls Try.prog 44 #[.pointer (some ⟨L.ci, 0, none⟩), .int .u32 (l.hd : Int), .int .u64 (d + (l.wt : Int))] wx fun e w' => e = .returned (.tuple #[]) ∧ IL B w n L z #[.slice fo F.length fc, .slice lo Ls.length lc] x (relax (relaxs d (Rw.take j) vs) l.hd (d + l.wt)) (out ++ [(x, d)]) (.slice po (out.length + 1) pc) w') := fun wx hx => reachL_calls x l.hd (d + l.wt) q1 q2 (by omega) (HJ.out.below hx (Nat.le_trans HB.out HJ.out.bel.size)) HB.out
          clear hl
          go_wp2_with fail
          refine (HRE.out _ ((Below.refl _ _).alloc (Nat.le_refl _) _)).mono ?_
          rintro e w7 ⟨rfl, hI7⟩
          have HI7 : Hid (IL B w n L z #[.slice fo F.length fc, .slice lo Ls.length lc] x (relaxs d (Rw.take (j + 1)) vs) (out ++ [(x, d)]) (.slice po (out.length + 1) pc) w7) := by show IL _ _ _ _ _ _ _ _ _ _ _; rw [HT.out]; exact hI7
          clear hI7 g0 g1 g2 g3
          go_wp2
          go_roundw
          case rel => exact ⟨j + 1, by omega, by go_num, HI7.out⟩
          case measure => simp [intOf]; omega
        · subst h1
          have HJ2 : Hid (IL B w n L z #[.slice fo F.length fc, .slice lo Ls.length lc] x (relaxs d Rw vs) (out ++ [(x, d)]) (.slice po (out.length + 1) pc) wr) := by have g := HJ.out; rw [List.take_length] at g; exact g
          have hcl : ∃ sv, Clm B wr n L sv (relaxs d Rw vs) (waits (relaxs d Rw vs) (x + 1)) := HJ2.out.clm
          obtain ⟨sv7, hC7⟩ := hcl
          obtain ⟨c0, c1⟩ := hC7.cells
          have hlen : (out ++ [(x, d)]).length = out.length + 1 := by rw [List.length_append]; rfl
          have HPP : Hid (Calls Try.prog 45 #[.pointer (some ⟨L.hb, 0, none⟩)] wr fun e w' => ∃ (x' : Nat) (kv : Int) (bb : Bool) (sv' : Value), e = .returned (.tuple #[.int .u32 (x' : Int), .int .u64 kv, .bool bb]) ∧ LI (rowL F Ls) B w n s L z #[.slice fo F.length fc, .slice lo Ls.length lc] x' bb (relaxs d Rw vs) (out ++ [(x, d)]) sv' (.slice po (out.length + 1) pc) w' ∧ (bb = true → x + 1 ≤ x')) := by
            have g := HPOP.out wr (x + 1) sv7 (.slice po (out.length + 1) pc) (relaxs d Rw vs) (out ++ [(x, d)]) hC7 HJ2.out.own HJ2.out.box HJ2.out.bel HJ2.out.low (by omega) (by rw [hlen]; omega) HRAN.out
            exact g
          clear hC7
          go_wp2_with fail
          refine HPP.out.mono ?_
          rintro e w8 ⟨x8, kv8, b8, sv8, rfl, hL8, hx8⟩
          have HL8 : Hid (LI (rowL F Ls) B w n s L z #[.slice fo F.length fc, .slice lo Ls.length lc] x8 b8 (relaxs d Rw vs) (out ++ [(x, d)]) sv8 (.slice po (out.length + 1) pc) w8) := hL8
          clear hL8 c0 c1
          go_wp2
          go_roundw
          case rel => exact ⟨x8, b8, relaxs d Rw vs, out ++ [(x, d)], po, pc, by rw [hlen], rfl, rfl, sv8, by rw [hlen]; exact HL8.out⟩
          case measure =>
            cases b8
            · simp [intOf]; omega
            · have := hx8 rfl
              have := (HL8.out.hit rfl).1
              simp [intOf]
              omega
end Go.Proofs.Ytlehlghagddogaa.Cb

namespace Go.Proofs.Ytlehlghagddogaa.Cb
open Go.RowKit Go.Extern Go.Shelf Hi

attribute [local go_sem] Oper.semAt_some

theorem run_out (row : Nat → List Lk) : ∀ (m r : Nat) (vs : List (Option Int)) (out : List (Nat × Int)), ∀ x ∈ (run row m r vs out).2, x ∈ out ∨ x.1 < r + m
  | 0, r, vs, out, x, hx => Or.inl hx
  | m + 1, r, vs, out, x, hx => by
    rw [run] at hx
    split at hx
    · rcases run_out row m (r + 1) _ _ x hx with h | h
      · rcases List.mem_append.1 h with h | h
        · exact Or.inl h
        · simp at h
          subst h
          right
          show r < r + (m + 1)
          omega
      · right; omega
    · rcases run_out row m (r + 1) _ _ x hx with h | h
      · exact Or.inl h
      · right; omega
/-- a rank that was reached, with whether it is stalled. -/
def stl (vs : List (Option Int)) (back : Nat → List Lk) (x : Nat × Int) : Nat × Int × Bool := (x.1, x.2, stalled vs (back x.1) x.2)
/-- the list when i of them are asked. -/
def stK (vs : List (Option Int)) (back : Nat → List Lk) (i : Nat) (out : List (Nat × Int)) : List (Nat × Int × Bool) := (out.take i).map (stl vs back) ++ (out.drop i).map nos
theorem stK_len (vs : List (Option Int)) (back : Nat → List Lk) (i : Nat) (out : List (Nat × Int)) : (stK vs back i out).length = out.length := by simp [stK]; omega
theorem stK_get {vs : List (Option Int)} {back : Nat → List Lk} {i : Nat} {out : List (Nat × Int)} {x : Nat × Int} (h : out[i]? = some x) : (stK vs back i out)[i]? = some (x.1, x.2, false) := by
  have hi := (List.getElem?_eq_some_iff.1 h).1
  unfold stK
  rw [List.getElem?_append_right (by simp; omega), List.getElem?_map, List.getElem?_drop, List.length_map, List.length_take, Nat.min_eq_left (by omega), Nat.sub_self, Nat.add_zero, h]
  rfl
theorem stK_step {vs : List (Option Int)} {back : Nat → List Lk} {i : Nat} {out : List (Nat × Int)} {x : Nat × Int} (h : out[i]? = some x) : stK vs back (i + 1) out = (stK vs back i out).set i (stl vs back x) := by
  have hk := (List.getElem?_eq_some_iff.1 h).1
  apply List.ext_getElem?
  intro k
  unfold stK
  rw [List.take_add_one, h]
  rcases Nat.lt_trichotomy k i with h1 | h1 | h1
  · rw [List.getElem?_set_ne (by omega), List.getElem?_append_left (by simp; omega), List.getElem?_append_left (by simp; omega), List.map_append, List.getElem?_append_left (by simp; omega)]
  · subst h1
    rw [List.getElem?_set_self (by simp; omega), List.getElem?_append_left (by simp; omega), List.map_append, List.getElem?_append_right (by simp; omega)]
    simp [Nat.min_eq_left (Nat.le_of_lt hk)]
  · rw [List.getElem?_set_ne (by omega), List.getElem?_append_right (by simp; omega), List.getElem?_append_right (by simp; omega), List.getElem?_map, List.getElem?_map, List.getElem?_drop, List.getElem?_drop]
    simp
    congr 2
    omega
theorem stK_all (vs : List (Option Int)) (back : Nat → List Lk) (out : List (Nat × Int)) : stK vs back out.length out = out.map (stl vs back) := by simp [stK]
theorem stK_zero (vs : List (Option Int)) (back : Nat → List Lk) (out : List (Nat × Int)) : stK vs back 0 out = out.map nos := by simp [stK]
theorem set_self {α : Type} {l : List α} {i : Nat} {x : α} (h : l[i]? = some x) : l.set i x = l := by
  apply List.ext_getElem?
  intro k
  by_cases e : i = k
  · subst e; rw [List.getElem?_set_self (List.getElem?_eq_some_iff.1 h).1, h]
  · rw [List.getElem?_set_ne e]
theorem snv_get : ∀ (l : List (Nat × Int × Bool)) (i : Nat) (a : Nat × Int × Bool), l[i]? = some a → (snv l)[i * 3]? = some (.int .i64 (a.1 : Int)) ∧ (snv l)[i * 3 + 1]? = some (.int .u64 a.2.1) ∧ (snv l)[i * 3 + 2]? = some (.bool a.2.2)
  | [], i, a, h => by simp at h
  | b :: r, 0, a, h => by
    simp at h
    subst h
    simp [snv]
  | b :: r, i + 1, a, h => by
    have ih := snv_get r i a (by simpa using h)
    have e : snv (b :: r) = [.int .i64 (b.1 : Int), .int .u64 b.2.1, .bool b.2.2] ++ snv r := by simp [snv]
    rw [e]
    refine ⟨?_, ?_, ?_⟩
    · rw [List.getElem?_append_right (by simp; omega), show (i + 1) * 3 - ([.int .i64 (b.1 : Int), .int .u64 b.2.1, .bool b.2.2] : List Value).length = i * 3 by simp; omega]; exact ih.1
    · rw [List.getElem?_append_right (by simp; omega), show (i + 1) * 3 + 1 - ([.int .i64 (b.1 : Int), .int .u64 b.2.1, .bool b.2.2] : List Value).length = i * 3 + 1 by simp; omega]; exact ih.2.1
    · rw [List.getElem?_append_right (by simp; omega), show (i + 1) * 3 + 2 - ([.int .i64 (b.1 : Int), .int .u64 b.2.1, .bool b.2.2] : List Value).length = i * 3 + 2 by simp; omega]; exact ih.2.2
theorem snv_set : ∀ (l : List (Nat × Int × Bool)) (i : Nat) (a : Nat × Int × Bool) (b : Bool), l[i]? = some a → (snv l).set (i * 3 + 2) (.bool b) = snv (l.set i (a.1, a.2.1, b))
  | [], i, a, b, h => by simp at h
  | c :: r, 0, a, b, h => by
    simp at h
    subst h
    simp [snv]
  | c :: r, i + 1, a, b, h => by
    have ih := snv_set r i a b (by simpa using h)
    have e : ∀ r, snv (c :: r) = [.int .i64 (c.1 : Int), .int .u64 c.2.1, .bool c.2.2] ++ snv r := fun r => by simp [snv]
    rw [List.set_cons_succ, e, e, ← ih, List.set_append_right _ _ (by simp; omega)]
    congr 2
    simp
    omega
/-- does this link stall? -/
def hits (vs : List (Option Int)) (d : Int) (l : Lk) : Bool := match vs[l.hd]? with
  | some (some a) => decide (a + l.wt < d)
  | _ => false
theorem stalled_any (vs : List (Option Int)) (row : List Lk) (d : Int) : stalled vs row d = row.any (hits vs d) := rfl
/-- while a rank's links back are gone through. -/
structure SL (B : Nat) (w : World) (n : Nat) (L : CP) (sv : Value) (vs : List (Option Int)) (f : Int → Option Int) (z : Nat) (cs : Array Value) (so : Option Addr) (sc m : Nat) (lst : List (Nat × Int × Bool)) (wr : World) : Prop where
  clm : Clm B wr n L sv vs f
  own : wr.ownsRow B 38 3 (.slice so m sc) m (snv lst)
  box : wr.heap[z]? = some (.cells cs 55)
  bel : Below B w wr
variable {B : Nat} {w wr : World} {n : Nat} {L : CP} {z : Nat} {cs : Array Value} {vs : List (Option Int)} {sv : Value} {f : Int → Option Int} {so : Option Addr} {sc m : Nat} {lst : List (Nat × Int × Bool)}
theorem SL.below {wn : World} (h : SL B w n L sv vs f z cs so sc m lst wr) (hb : Below wr.heap.size wr wn) (hB : B ≤ w.heap.size) : SL B w n L sv vs f z cs so sc m lst wn :=
  ⟨h.clm.below hb, own_keep h.own fun k _ _ hh => (hb.block k (some_lt hh)).trans hh, (hb.block _ (some_lt h.box)).trans h.box, h.bel.trans (hb.mono (Nat.le_trans hB h.bel.size))⟩
/-- a flag is set. -/
theorem SL.flag {g : Nat} (h : SL B w n L sv vs f z cs (some ⟨g, 0, none⟩) sc m lst wr) {i : Nat} {a : Nat × Int × Bool} (hi : lst[i]? = some a) : SL B w n L sv vs f z cs (some ⟨g, 0, none⟩) sc m (lst.set i (a.1, a.2.1, true)) (wr.setCell ⟨g, i * 3 + 2, none⟩ (.bool true)) := by
  obtain ⟨hg1, hg2⟩ := h.own.lt g rfl
  have hoff := h.clm.offRow h.own g rfl
  have far : ∀ k, k ≠ g → (wr.setCell ⟨g, i * 3 + 2, none⟩ (.bool true)).heap[k]? = wr.heap[k]? := fun k hk => Below.heap_setCell _ _ _ _ hk
  refine ⟨h.clm.keep fun k _ ho => far k (fun e => hoff (e ▸ ho)), ?_, ?_, h.bel.setCell hg1 _⟩
  · have := (h.own.stored (i * 3 + 2) (.bool true)).1
    rw [snv_set lst i a true hi] at this
    exact this
  · refine (far z (fun e => ?_)).trans h.box
    have hb := h.box
    rw [e] at hb
    rcases h.own.2 with ⟨e1, _⟩ | ⟨g', cap, cur, e1, _, hh, _⟩
    · cases e1
    · cases e1
      rw [hh] at hb
      simp at hb

theorem three_cells {w : World} {b : Nat} {T : TypeId} {a0 a1 a2 : Value} (h : w.heap[b]? = some (.cells #[a0, a1, a2] T)) : w.cell? ⟨b, 0, none⟩ = some a0 ∧ w.cell? ⟨b, 1, none⟩ = some a1 ∧ w.cell? ⟨b, 2, none⟩ = some a2 := by simp [World.cell?, h]
theorem sl_box {a0 a1 : Value} (h : SL B w n L sv vs f z #[a0, a1] so sc m lst wr) : wr.cell? ⟨z, 0, none⟩ = some a0 ∧ wr.cell? ⟨z, 1, none⟩ = some a1 := by simp [World.cell?, h.box]
theorem bdrew {B : Nat} {w w' : World} (h : Below B w w') (k : Nat) : Below B w (w'.drewN k) := ⟨h.os, h.tape, h.output, h.size, h.block⟩

set_option maxRecDepth 100000 in
set_option maxHeartbeats 4000000 in
theorem stall_calls (fo lo : Option Addr) (fc lc : Nat) (F : List Nat) (Ls : List Lk) (out : List (Nat × Int)) (h : Clm B w n L sv vs f) (hB : B ≤ w.heap.size) (ho : w.ownsRow B 38 3 (.slice so out.length sc) out.length (snv (out.map nos))) (hout : ∀ x ∈ out, x.1 < n) (hlen : out.length ≤ 65536) (hlow : Low vs) (hn : n ≤ 65536) (hF : FOk F Ls.length) (hFn : F.length = n + 1) (hLs : Ls.length ≤ 1048576) (hM : ∀ wx, Below B w wx → HasWs wx (.slice fo F.length fc) F ∧ HasLs wx (.slice lo Ls.length lc) Ls) (hrow : ∀ r, r < n → ∀ l ∈ rowL F Ls r, r < l.hd ∧ l.hd < n ∧ l.wt ≤ 140737488355328) :
    Calls Try.prog 30 #[.pointer (some ⟨L.ci, 0, none⟩), .slice so out.length sc, .agg #[.slice fo F.length fc, .slice lo Ls.length lc]] w fun e w' => e = .returned (.tuple #[]) ∧ w'.ownsRow B 38 3 (.slice so out.length sc) out.length (snv (out.map (stl vs (rowL F Ls)))) ∧ Below B w w' := by
  obtain ⟨z, hz⟩ : ∃ z, w.heap.size = z := ⟨_, rfl⟩
  obtain ⟨W0, hW0⟩ : ∃ W0, w.alloc (.cells #[.slice fo F.length fc, .slice lo Ls.length lc] 55) = W0 := ⟨_, rfl⟩
  have hb0 : Below w.heap.size w W0 := by rw [← hW0]; exact (Below.refl _ _).alloc (Nat.le_refl _) _
  have g1 : W0.heap[z]? = some (.cells #[.slice fo F.length fc, .slice lo Ls.length lc] 55) := by rw [← hW0, ← hz]; exact heap_newW _ _
  have HS0 : Hid (SL B w n L sv vs f z #[.slice fo F.length fc, .slice lo Ls.length lc] so sc out.length (stK vs (rowL F Ls) 0 out) W0) := by
    show SL _ _ _ _ _ _ _ _ _ _ _ _ _ _
    rw [stK_zero]
    exact ⟨h.below hb0, own_keep ho fun k _ _ hh => (hb0.block k (some_lt hh)).trans hh, g1, hb0.mono hB⟩
  have HM : Hid (∀ wx, Below B w wx → HasWs wx (.slice fo F.length fc) F ∧ HasLs wx (.slice lo Ls.length lc) Ls) := hM
  have HF : Hid (FOk F Ls.length ∧ F.length = n + 1 ∧ Ls.length ≤ 1048576) := ⟨hF, hFn, hLs⟩
  have HRW : Hid (∀ r, r < n → ∀ l ∈ rowL F Ls r, r < l.hd ∧ l.hd < n ∧ l.wt ≤ 140737488355328) := hrow
  have HB : Hid (B ≤ w.heap.size) := hB
  have HO : Hid (∀ x ∈ out, x.1 < n) := hout
  have HLOW : Hid (Low vs) := hlow
  have HW0 : Hid (w.alloc (.cells #[.slice fo F.length fc, .slice lo Ls.length lc] 55) = W0) := hW0
  clear hb0 g1 h hB ho hout hlow hF hFn hLs hM hrow hW0
  go_enter Try.func30, Try.ntmps30
  go_wp2_with fail
  rw [HW0.out]
  go_loopw [14] (fun iv wr => ∃ i : Nat, i ≤ out.length ∧ iv = .int .i64 i ∧ Hid (SL B w n L sv vs f z #[.slice fo F.length fc, .slice lo Ls.length lc] so sc out.length (stK vs (rowL F Ls) i out) wr)) (fun iv _ => out.length - (intOf iv).toNat)
  case atStart => exact ⟨0, Nat.zero_le _, rfl, HS0.out⟩
  case round =>
    obtain ⟨i, hi, rfl, HS⟩ := hrel
    rcases Nat.lt_or_eq_of_le hi with h1 | h1
    · obtain ⟨⟨x, d⟩, hx⟩ : ∃ x, out[i]? = some x := ⟨out[i], List.getElem?_eq_getElem h1⟩
      have hxn := HO.out _ (List.mem_of_getElem? hx)
      have HK : Hid ((stK vs (rowL F Ls) i out)[i]? = some (x, d, false)) := stK_get hx
      have HST : Hid (stK vs (rowL F Ls) (i + 1) out = (stK vs (rowL F Ls) i out).set i (x, d, stalled vs (rowL F Ls x) d)) := stK_step hx
      obtain ⟨g, hg⟩ : ∃ g, so = some ⟨g, 0, none⟩ := by
        rcases HS.out.own.2 with ⟨e1, _⟩ | ⟨g, cap, cur, e1, _⟩
        · simp at e1; omega
        · simp at e1; exact ⟨g, e1.1⟩
      subst hg
      obtain ⟨s0, s1, s2⟩ := snv_get _ i _ HK.out
      have c0 := (HS.out.own.cellAt (i * 3) (by omega)).trans s0
      have c1 := (HS.out.own.cellAt (i * 3 + 1) (by omega)).trans s1
      have c2 := (HS.out.own.cellAt (i * 3 + 2) (by omega)).trans s2
      have i1 : (i : Int) < (out.length : Int) := by omega
      have i2 : (0 : Int) ≤ (i : Int) := by omega
      have i3 : IntKind.u32.wrap (x : Int) = (x : Int) := by rw [IntKind.wrap_u32]; omega
      have hg2 := (HS.out.own.lt g rfl).2
      clear hx s0 s1 s2
      go_upto_region 4 with fail
      obtain ⟨y, hy⟩ : ∃ y, wr.heap.size = y := ⟨_, rfl⟩
      obtain ⟨W1, hW1⟩ : ∃ W1, wr.alloc (.cells #[.int .i64 (x : Int), .int .u64 d, .bool false] 38) = W1 := ⟨_, rfl⟩
      have HS1 : Hid (SL B w n L sv vs f z #[.slice fo F.length fc, .slice lo Ls.length lc] (some ⟨g, 0, none⟩) sc out.length (stK vs (rowL F Ls) i out) W1 ∧ W1.heap[y]? = some (.cells #[.int .i64 (x : Int), .int .u64 d, .bool false] 38)) := by
        constructor
        · rw [← hW1]; exact HS.out.below ((Below.refl _ _).alloc (Nat.le_refl _) _) HB.out
        · rw [← hW1, ← hy]; exact heap_newW _ _
      have hgy : g ≠ y := by omega
      have hyg : y ≠ g := hgy.symm
      rw [hW1, hy]
      clear hy hW1 c0 c1 c2 hg2 HS
      obtain ⟨e0, e1, e2⟩ := three_cells HS1.out.2
      obtain ⟨d0, d1⟩ := sl_box HS1.out.1
      have HAT : Hid (Calls Try.prog 47 #[.agg #[.slice fo F.length fc, .slice lo Ls.length lc], .int .u32 (x : Int)] W1 fun e w' => ∃ so c, e = .returned (.slice so (rowL F Ls x).length c) ∧ (∀ wx, HasLs wx (.slice lo Ls.length lc) Ls → HasLs wx (.slice so (rowL F Ls x).length c) (rowL F Ls x)) ∧ Below W1.heap.size W1 w') := at_calls fo lo fc lc F Ls x W1 HF.out.1 (by have := HF.out.2.1; omega) (by have := HF.out.2.1; omega) (HM.out W1 HS1.out.1.bel).1 (HM.out W1 HS1.out.1.bel).2
      go_wp2_with fail
      refine HAT.out.mono ?_
      rintro e w6 ⟨ro, rc, rfl, hX, hb6⟩
      have HX : Hid (∀ wx, HasLs wx (.slice lo Ls.length lc) Ls → HasLs wx (.slice ro (rowL F Ls x).length rc) (rowL F Ls x)) := hX
      have HLL : Hid (∀ (j : Nat) (l : Lk), (rowL F Ls x)[j]? = some l → x < l.hd ∧ l.hd < n ∧ l.wt ≤ 140737488355328) := fun j l hj => HRW.out x hxn l (List.mem_of_getElem? hj)
      have hm9 : (rowL F Ls x).length ≤ 1048576 := by
        have := HF.out.2.2
        have h2 : (rowL F Ls x).length ≤ Ls.length := by unfold rowL; rw [List.length_take, List.length_drop]; omega
        omega
      have HS6 : Hid (SL B w n L sv vs f z #[.slice fo F.length fc, .slice lo Ls.length lc] (some ⟨g, 0, none⟩) sc out.length ((stK vs (rowL F Ls) i out).set i (x, d, ((rowL F Ls x).take 0).any (hits vs d))) w6 ∧ w6.heap[y]? = some (.cells #[.int .i64 (x : Int), .int .u64 d, .bool false] 38)) := by
        have e : (stK vs (rowL F Ls) i out).set i (x, d, ((rowL F Ls x).take 0).any (hits vs d)) = stK vs (rowL F Ls) i out := set_self HK.out
        constructor
        · rw [e]; exact HS1.out.1.below hb6 HB.out
        · exact (hb6.block _ (some_lt HS1.out.2)).trans HS1.out.2
      rw [stalled_any] at HST
      obtain ⟨Rw, hRw⟩ : ∃ Rw, rowL F Ls x = Rw := ⟨_, rfl⟩
      obtain ⟨K0, hK0⟩ : ∃ K0, stK vs (rowL F Ls) i out = K0 := ⟨_, rfl⟩
      have hKl : K0.length = out.length := by rw [← hK0]; exact stK_len _ _ _ _
      rw [hK0] at HS6 HST HK
      rw [hRw] at HX HLL hm9 HS6 HST ⊢
      clear hX hb6 hRw hK0 HAT HS1 e0 e1 e2 d0 d1
      go_wp2_with fail
      go_loopw [25] (fun iv wr => ∃ j : Nat, j ≤ Rw.length ∧ iv = .int .i64 j ∧ Hid (SL B w n L sv vs f z #[.slice fo F.length fc, .slice lo Ls.length lc] (some ⟨g, 0, none⟩) sc out.length (K0.set i (x, d, (Rw.take j).any (hits vs d))) wr ∧ wr.heap[y]? = some (.cells #[.int .i64 (x : Int), .int .u64 d, .bool false] 38))) (fun iv _ => Rw.length - (intOf iv).toNat)
      case atStart => exact ⟨0, Nat.zero_le _, rfl, HS6.out⟩
      case round =>
        obtain ⟨j, hj, rfl, HJ⟩ := hrel
        rcases Nat.lt_or_eq_of_le hj with h2 | h2
        · obtain ⟨l, hl⟩ : ∃ l, Rw[j]? = some l := ⟨Rw[j], List.getElem?_eq_getElem h2⟩
          obtain ⟨q1, q2, q3⟩ := HLL.out j l hl
          obtain ⟨_, b, off, e1, _, g0, g1, g2, g3⟩ := (HX.out wr (HM.out wr HJ.out.1.bel).2).at hl
          subst e1
          have HT : Hid ((Rw.take (j + 1)).any (hits vs d) = ((Rw.take j).any (hits vs d) || hits vs d l)) := by
            show _ = _
            rw [List.take_add_one, hl]
            simp
          have i4 : (j : Int) < (Rw.length : Int) := by omega
          have i5 : (0 : Int) ≤ (j : Int) := by omega
          have i6 : IntKind.i64.wrap (l.hd : Int) = (l.hd : Int) := by rw [IntKind.wrap_i64]; omega
          have hvl : vs.length = n := HJ.out.1.clm.st.lt.2.2.2.1
          obtain ⟨o, ho⟩ : ∃ o, vs[l.hd]? = some o := ⟨vs[l.hd]'(by omega), List.getElem?_eq_getElem (by omega)⟩
          have hgot : ∃ (a : Int) (bb : Bool), St.gotV o = .tuple #[.int .u64 a, .bool bb] ∧ hits vs d l = (bb && decide (a + l.wt < d)) ∧ 0 ≤ a ∧ a ≤ 9223372036854775808 := by
            cases o with
            | none => exact ⟨0, false, rfl, by unfold hits; rw [ho]; rfl, by omega, by omega⟩
            | some a =>
              have hlo := HLOW.out l.hd a ho
              exact ⟨a, true, rfl, by unfold hits; rw [ho]; rfl, hlo.1, by omega⟩
          obtain ⟨a, bb, hgv, hhit, ha1, ha2⟩ := hgot
          have i7 : IntKind.u64.wrap (a + (l.wt : Int)) = a + (l.wt : Int) := by rw [IntKind.wrap_u64]; omega
          clear hl
          go_upto_region 7 with fail
          obtain ⟨q, hq⟩ : ∃ q, wr.heap.size = q := ⟨_, rfl⟩
          obtain ⟨W2, hW2⟩ : ∃ W2, wr.alloc (.cells #[.int .u32 (l.hd : Int), .int .u64 (l.wt : Int), .int .u32 (l.lf : Int), .int .u32 (l.rt : Int)] 64) = W2 := ⟨_, rfl⟩
          have H2 : Hid (∀ wx, Below W2.heap.size W2 wx → (SL B w n L sv vs f z #[.slice fo F.length fc, .slice lo Ls.length lc] (some ⟨g, 0, none⟩) sc out.length (K0.set i (x, d, (Rw.take j).any (hits vs d))) wx ∧ wx.heap[y]? = some (.cells #[.int .i64 (x : Int), .int .u64 d, .bool false] 38)) ∧ (wx.cell? ⟨q, 0, none⟩ = some (.int .u32 (l.hd : Int)) ∧ wx.cell? ⟨q, 1, none⟩ = some (.int .u64 (l.wt : Int))) ∧ wx.cell? ⟨L.ci, 0, none⟩ = some (.pointer (some ⟨L.sb, 0, none⟩))) := fun wx hx => by
            have f1 : W2.heap[q]? = some (.cells #[.int .u32 (l.hd : Int), .int .u64 (l.wt : Int), .int .u32 (l.lf : Int), .int .u32 (l.rt : Int)] 64) := by rw [← hW2, ← hq]; exact heap_newW _ _
            have f2 : Below wr.heap.size wr W2 := by rw [← hW2]; exact (Below.refl _ _).alloc (Nat.le_refl _) _
            have f3 : Below wr.heap.size wr wx := f2.trans (hx.mono f2.size)
            have f4 := (hx.block _ (some_lt f1)).trans f1
            have f5 := HJ.out.1.below f3 HB.out
            exact ⟨⟨f5, (f3.block _ (some_lt HJ.out.2)).trans HJ.out.2⟩, by simp [World.cell?, f4], f5.clm.cells.1⟩
          have HG : Hid (∀ wx, Below W2.heap.size W2 wx → Calls Try.prog 46 #[.pointer (some ⟨L.sb, 0, none⟩), .int .i64 (l.hd : Int)] wx fun e w' => e = .returned (.tuple #[.int .u64 a, .bool bb]) ∧ Below wx.heap.size wx w') := fun wx hx => by rw [← hgv]; exact St.get_in (H2.out wx hx).1.1.clm.st l.hd o ho
          have HB2 : Hid (Below W2.heap.size W2 W2) := Below.refl _ _
          rw [hW2, hq]
          clear hq hW2 g0 g1 g2 g3 ho hgv
          obtain ⟨_, ⟨k0, k1⟩, k2⟩ := H2.out W2 HB2.out
          go_region_held3 (fun w' => w'.cell? ⟨q, 0, none⟩ = some (.int .u32 (l.hd : Int)) ∧ w'.cell? ⟨L.ci, 0, none⟩ = some (.pointer (some ⟨L.sb, 0, none⟩))) (go_keep) (first
            | (go_at_call 46; refine (HG.out _ (by first | exact HB2.out.drew | exact bdrew HB2.out _ | exact HB2.out)).mono ?_; rintro e v1 ⟨rfl, hy⟩; have V1 : Hid (Below W2.heap.size W2 v1) := btrH' (by first | exact HB2.out.drew | exact bdrew HB2.out _ | exact HB2.out) hy; obtain ⟨_, ⟨k0, k1⟩, k2⟩ := H2.out v1 V1.out; clear hy))
          obtain ⟨⟨hS3, hy3⟩, _, _⟩ := H2.out v1 V1.out
          have HS3 : Hid (SL B w n L sv vs f z #[.slice fo F.length fc, .slice lo Ls.length lc] (some ⟨g, 0, none⟩) sc out.length (K0.set i (x, d, (Rw.take j).any (hits vs d))) v1 ∧ v1.heap[y]? = some (.cells #[.int .i64 (x : Int), .int .u64 d, .bool false] 38)) := ⟨hS3, hy3⟩
          obtain ⟨e0, e1, e2⟩ := three_cells hy3
          clear hS3 hy3
          have HKI : Hid ((K0.set i (x, d, (Rw.take j).any (hits vs d)))[i]? = some (x, d, (Rw.take j).any (hits vs d))) := by
            show _ = _
            rw [List.getElem?_set_self (by omega)]
          cases hh : hits vs d l with
          | false =>
            have HE : Hid (K0.set i (x, d, (Rw.take (j + 1)).any (hits vs d)) = K0.set i (x, d, (Rw.take j).any (hits vs d))) := by show _ = _; rw [HT.out, hh, Bool.or_false]
            rw [hh] at hhit
            have hcase : bb = false ∨ (bb = true ∧ ¬ a + (l.wt : Int) < d) := by
              cases bb
              · exact Or.inl rfl
              · exact Or.inr ⟨rfl, by simpa using hhit.symm⟩
            clear hhit hh
            rcases hcase with rfl | ⟨rfl, hlt⟩
            all_goals
              go_wp2
              go_roundw
              case rel => exact ⟨j + 1, by omega, by go_num, by rw [HE.out]; exact HS3.out⟩
              case measure => simp [intOf]; omega
          | true =>
            have HE : Hid (K0.set i (x, d, (Rw.take (j + 1)).any (hits vs d)) = (K0.set i (x, d, (Rw.take j).any (hits vs d))).set i (x, d, true)) := by show _ = _; rw [HT.out, hh, Bool.or_true, List.set_set]
            rw [hh] at hhit
            obtain ⟨rfl, hlt⟩ : bb = true ∧ a + (l.wt : Int) < d := by
              cases bb
              · simp at hhit
              · exact ⟨rfl, by simpa using hhit.symm⟩
            have HFL : Hid (SL B w n L sv vs f z #[.slice fo F.length fc, .slice lo Ls.length lc] (some ⟨g, 0, none⟩) sc out.length ((K0.set i (x, d, (Rw.take j).any (hits vs d))).set i (x, d, true)) (v1.setCell ⟨g, i * 3 + 2, none⟩ (.bool true)) ∧ (v1.setCell ⟨g, i * 3 + 2, none⟩ (.bool true)).heap[y]? = some (.cells #[.int .i64 (x : Int), .int .u64 d, .bool false] 38)) := ⟨HS3.out.1.flag HKI.out, (Below.heap_setCell _ _ _ _ hyg).trans HS3.out.2⟩
            obtain ⟨_, _, s2⟩ := snv_get _ i _ HKI.out
            have c2 := (HS3.out.1.own.cellAt (i * 3 + 2) (by omega)).trans s2
            have z2 := HS3.out.1.own.frozenAt (i * 3 + 2)
            clear hhit hh s2
            go_wp2
            go_roundw
            case rel => exact ⟨j + 1, by omega, by go_num, by rw [HE.out]; exact HFL.out⟩
            case measure => simp [intOf]; omega
        · subst h2
          have HJ2 : Hid (SL B w n L sv vs f z #[.slice fo F.length fc, .slice lo Ls.length lc] (some ⟨g, 0, none⟩) sc out.length (stK vs (rowL F Ls) (i + 1) out) wr) := by
            have g := HJ.out.1
            rw [List.take_length] at g
            show SL _ _ _ _ _ _ _ _ _ _ _ _ _ _
            rw [HST.out]
            exact g
          go_wp2
          go_roundw
          case rel => exact ⟨i + 1, by omega, by go_num, HJ2.out⟩
          case measure => simp [intOf]; omega
    · subst h1
      go_wp2
      exact bodyPost_end (v := .tuple #[]) (by simp [results, Try.results30]) rfl ⟨rfl, by have g := HS.out.own; rw [stK_all] at g; exact g, HS.out.bel⟩
end Go.Proofs.Ytlehlghagddogaa.Cb

namespace Go.Proofs.Ytlehlghagddogaa.Cb
open Go.RowKit Go.Extern Go.Shelf Hi

attribute [local go_sem] Oper.semAt_some

theorem run_len (row : Nat → List Lk) : ∀ (m r : Nat) (vs : List (Option Int)) (out : List (Nat × Int)), (run row m r vs out).2.length ≤ out.length + m
  | 0, r, vs, out => Nat.le_refl _
  | m + 1, r, vs, out => by
    rw [run]
    split
    · rename_i d hd
      have := run_len row m (r + 1) (relaxs d (row r) vs) (out ++ [(r, d)])
      rw [List.length_append, List.length_singleton] at this
      exact Nat.le_trans this (by omega)
    · have := run_len row m (r + 1) vs out
      omega
set_option maxRecDepth 100000 in
set_option maxHeartbeats 4000000 in
theorem newC_calls (n : Nat) (hn : n ≤ 65536) (w : World) : Calls Try.prog 28 #[.int .i64 (n : Int)] w fun e w' => ∃ L : CP, e = .returned (.tuple #[.pointer (some ⟨L.ci, 0, none⟩), .nilIface]) ∧ Clm w.heap.size w' n L (.slice none 0 0) (List.replicate n none) (fun _ => none) ∧ Below w.heap.size w w' := by
  have HS : Hid (∀ wx : World, Calls Try.prog 42 #[.int .i64 (n : Int), .int .u32 0] wx fun e w' => e = .returned (.tuple #[.pointer (some ⟨wx.heap.size + 1, 0, none⟩), .nilIface]) ∧ St.IsStamp w' (wx.heap.size + 1) wx.heap.size n (List.replicate n none) ∧ Below wx.heap.size wx w') := fun wx => St.new_calls n hn 0 (by omega) (by omega) wx
  have HH : Hid (∀ wx : World, Calls Try.prog 43 #[.int .i64 (n : Int)] wx fun e w' => e = .returned (.tuple #[.pointer (some ⟨wx.heap.size + 1, 0, none⟩), .nilIface]) ∧ Hp.IsHeap w' (wx.heap.size + 1) wx.heap.size n (.slice none 0 0) (fun _ => none) ∧ Below wx.heap.size wx w') := fun wx => Hp.new_calls n hn wx
  go_enter Try.func28, Try.ntmps28
  go_wp2_with fail
  refine (HS.out w).mono ?_
  rintro e w1 ⟨rfl, hs1, hb1⟩
  have H1 : Hid (St.IsStamp w1 (w.heap.size + 1) w.heap.size n (List.replicate n none) ∧ Below w.heap.size w w1) := ⟨hs1, hb1⟩
  clear hs1 hb1
  go_wp2_with fail
  refine (HH.out w1).mono ?_
  rintro e w2 ⟨rfl, hs2, hb2⟩
  have H2 : Hid (Hp.IsHeap w2 (w1.heap.size + 1) w1.heap.size n (.slice none 0 0) (fun _ => none) ∧ Below w1.heap.size w1 w2) := ⟨hs2, hb2⟩
  clear hs2 hb2
  go_wp2
  go_ret2
  have l1 := H1.out.1.lt
  have l2 := H2.out.1.lt
  have q1 := H1.out.2.size
  have q2 := H2.out.2.size
  have hb3 : Below w2.heap.size w2 (w2.alloc (.cells #[.pointer (some ⟨w.heap.size + 1, 0, none⟩), .pointer (some ⟨w1.heap.size + 1, 0, none⟩)] 93)) := (Below.refl _ _).alloc (Nat.le_refl _) _
  refine ⟨⟨w2.heap.size, w.heap.size + 1, w.heap.size, w1.heap.size + 1, w1.heap.size⟩, rfl, ⟨heap_newW _ _, (H1.out.1.below H2.out.2).below hb3, H2.out.1.below hb3, ⟨?_, ?_, ?_, ?_, ?_, ?_, ?_, ?_⟩, ?_, ?_, ?_, ?_⟩, H1.out.2.trans ((H2.out.2.mono q1).trans (hb3.mono (by omega)))⟩
  · show w2.heap.size ≠ w.heap.size + 1; omega
  · show w2.heap.size ≠ w.heap.size; omega
  · show w2.heap.size ≠ w1.heap.size + 1; omega
  · show w2.heap.size ≠ w1.heap.size; omega
  · show w.heap.size + 1 ≠ w1.heap.size + 1; omega
  · show w.heap.size + 1 ≠ w1.heap.size; omega
  · show w.heap.size ≠ w1.heap.size + 1; omega
  · show w.heap.size ≠ w1.heap.size; omega
  · simp [Value.ownBlock]
  · simp [Value.ownBlock]
  · simp [Value.ownBlock]
  · rintro k (o | o | o | o | o | o)
    · simp at o; omega
    · simp at o; omega
    · simp at o; omega
    · simp at o; omega
    · simp at o; omega
    · simp [Value.ownBlock] at o
/-- a list of links by their lower ends, in memory and in form. -/
structure RowsOk (w : World) (n : Nat) (fo lo : Option Addr) (fc lc : Nat) (F : List Nat) (Ls : List Lk) : Prop where
  fs : HasWs w (.slice fo F.length fc) F
  ls : HasLs w (.slice lo Ls.length lc) Ls
  ok : FOk F Ls.length
  len : F.length = n + 1
  few : Ls.length ≤ 1048576
  form : ∀ r, r < n → ∀ l ∈ rowL F Ls r, r < l.hd ∧ l.hd < n ∧ l.wt ≤ 140737488355328

set_option maxRecDepth 100000 in
set_option maxHeartbeats 4000000 in
theorem search_good (v : HV) (h : Hr) (s : Nat) (fo lo : Option Addr) (fc lc : Nat) (F : List Nat) (Ls : List Lk) (fo' lo' : Option Addr) (fc' lc' : Nat) (F' : List Nat) (Ls' : List Lk) (w : World) (hH : HasH w v h) (hc : chk h = (0, [])) (hs : s < h.node.length) (ha : RowsOk w h.node.length fo lo fc lc F Ls) (hb : RowsOk w h.node.length fo' lo' fc' lc' F' Ls') :
    Calls Try.prog 19 #[hvl v h, .int .i64 (s : Int), .agg #[.slice fo F.length fc, .slice lo Ls.length lc], .agg #[.slice fo' F'.length fc', .slice lo' Ls'.length lc']] w fun e w' => ∃ (mo : Option Addr) (mc : Nat) (X : List (Nat × Int × Bool)), X = climbed h.node.length s (rowL F Ls) (rowL F' Ls') ∧ e = .returned (.tuple #[.slice mo X.length mc, .nilIface]) ∧ w'.ownsRow w.heap.size 38 3 (.slice mo X.length mc) X.length (snv X) ∧ Below w.heap.size w w' := by
  obtain ⟨k1, k2, k3, k4, k5, k6, k7, k8⟩ := chk_ok hc
  obtain ⟨z, hz⟩ : ∃ z, w.heap.size = z := ⟨_, rfl⟩
  obtain ⟨W0, hW0⟩ : ∃ W0, ((w.alloc (.cells (cellsH v h) 25)).alloc (.cells #[.slice fo F.length fc, .slice lo Ls.length lc] 55)).alloc (.cells #[.slice fo' F'.length fc', .slice lo' Ls'.length lc'] 55) = W0 := ⟨_, rfl⟩
  have hB0 : Below w.heap.size w W0 := by rw [← hW0]; exact (((Below.refl _ w).alloc (Nat.le_refl _) _).alloc (by simp) _).alloc (by simp; omega) _
  have h0 : W0.heap[z]? = some (.cells (cellsH v h) 25) := by
    rw [← hW0, ← hz]; exact ((Below.heap_alloc _ _ _ (by simp; omega)).trans (Below.heap_alloc _ _ _ (by simp))).trans (heap_newW _ _)
  have h1 : W0.heap[z + 1]? = some (.cells #[.slice fo F.length fc, .slice lo Ls.length lc] 55) := by
    rw [← hW0, ← hz]
    have g := heap_newW (w.alloc (.cells (cellsH v h) 25)) (.cells #[.slice fo F.length fc, .slice lo Ls.length lc] 55)
    rw [World.size_alloc] at g
    exact (Below.heap_alloc _ _ _ (by simp)).trans g
  have h2 : W0.heap[z + 1 + 1]? = some (.cells #[.slice fo' F'.length fc', .slice lo' Ls'.length lc'] 55) := by
    rw [← hW0, ← hz]
    have g := heap_newW ((w.alloc (.cells (cellsH v h) 25)).alloc (.cells #[.slice fo F.length fc, .slice lo Ls.length lc] 55)) (.cells #[.slice fo' F'.length fc', .slice lo' Ls'.length lc'] 55)
    rw [World.size_alloc, World.size_alloc] at g
    exact g
  have HQ : Hid (∀ wx, Below W0.heap.size W0 wx → ((wx.cell? ⟨z, 0, none⟩ = some (.slice v.no h.node.length v.nc) ∧ wx.cell? ⟨z, 1, none⟩ = some (.slice v.uo h.upF.length v.uc) ∧ wx.cell? ⟨z, 2, none⟩ = some (.slice v.ul h.up.length v.ulc) ∧ wx.cell? ⟨z, 3, none⟩ = some (.slice v.wo h.dnF.length v.wc) ∧ wx.cell? ⟨z, 4, none⟩ = some (.slice v.dl h.dn.length v.dlc)) ∧ (wx.cell? ⟨z + 1, 0, none⟩ = some (.slice fo F.length fc) ∧ wx.cell? ⟨z + 1, 1, none⟩ = some (.slice lo Ls.length lc)) ∧ wx.cell? ⟨z + 1 + 1, 0, none⟩ = some (.slice fo' F'.length fc') ∧ wx.cell? ⟨z + 1 + 1, 1, none⟩ = some (.slice lo' Ls'.length lc')) ∧ Below w.heap.size w wx) := fun wx hx => by
    have f0 := (hx.block _ (some_lt h0)).trans h0
    have f1 := (hx.block _ (some_lt h1)).trans h1
    have f2 := (hx.block _ (some_lt h2)).trans h2
    exact ⟨⟨five_cells f0, by simp [World.cell?, f1], by simp [World.cell?, f2]⟩, hB0.trans (hx.mono hB0.size)⟩
  have HCK : Hid (Calls Try.prog 27 #[hvl v h] W0 fun e w' => e = .returned .nilIface ∧ Below W0.heap.size W0 w') := check_ok (hH.keep hB0) hc
  have HW0 : Hid (((w.alloc (.cells (cellsH v h) 25)).alloc (.cells #[.slice fo F.length fc, .slice lo Ls.length lc] 55)).alloc (.cells #[.slice fo' F'.length fc', .slice lo' Ls'.length lc'] 55) = W0) := hW0
  obtain ⟨n, hn⟩ : ∃ n, h.node.length = n := ⟨_, rfl⟩
  rw [hn] at ha hb hs k1
  have HA : Hid (RowsOk w n fo lo fc lc F Ls ∧ RowsOk w n fo' lo' fc' lc' F' Ls') := ⟨ha, hb⟩
  have HN : Hid (h.node.length = n) := hn
  rw [hn] at HQ
  obtain ⟨⟨⟨c0, c1, c2, c3, c4⟩, ⟨d0, d1⟩, e0, e1⟩, _⟩ := HQ.out W0 (Below.refl _ _)
  have i1 : decide ((s : Int) < 0) = false := by simp
  have i2 : decide ((n : Int) ≤ (s : Int)) = false := by simp; omega
  have i3 : IntKind.u32.wrap (s : Int) = (s : Int) := by rw [IntKind.wrap_u32]; omega
  have HZ : Hid (w.heap.size = z) := hz
  rw [hn]
  clear hW0 h0 h1 h2 hB0 hH hc k2 k3 k4 k5 k6 k7 k8 ha hb
  unfold cellsH at HW0
  unfold hvl at HCK ⊢
  rw [hn] at HCK HW0 ⊢
  clear hn
  go_enter Try.func19, Try.ntmps19
  go_upto_region 1 with fail
  rw [HW0.out]
  go_wp2_with fail
  refine HCK.out.mono ?_
  rintro e w1 ⟨rfl, hb1⟩
  have HB1 : Hid (Below W0.heap.size W0 w1) := hb1
  clear hb1 c0 c1 c2 c3 c4 d0 d1 e0 e1
  obtain ⟨⟨⟨c0, c1, c2, c3, c4⟩, ⟨d0, d1⟩, e0, e1⟩, _⟩ := HQ.out w1 HB1.out
  go_wp2_with fail
  refine (newC_calls n k1 w1).mono ?_
  rintro e w2 ⟨L, rfl, hC2, hb2⟩
  have HC2 : Hid (Clm w1.heap.size w2 n L (.slice none 0 0) (List.replicate n none) (fun _ => none) ∧ Below w1.heap.size w1 w2) := ⟨hC2, hb2⟩
  have HUP : Hid (∀ wx, Below w1.heap.size w1 wx → Below W0.heap.size W0 wx) := fun wx hx => HB1.out.trans (hx.mono HB1.out.size)
  have HMA : Hid (∀ wx, Below w1.heap.size w1 wx → (HasWs wx (.slice fo F.length fc) F ∧ HasLs wx (.slice lo Ls.length lc) Ls) ∧ HasWs wx (.slice fo' F'.length fc') F' ∧ HasLs wx (.slice lo' Ls'.length lc') Ls') := fun wx hx => by
    have g := (HQ.out wx (HUP.out wx hx)).2
    exact ⟨⟨HA.out.1.fs.keep g, HA.out.1.ls.keep g⟩, HA.out.2.fs.keep g, HA.out.2.ls.keep g⟩
  clear hC2 hb2 c0 c1 c2 c3 c4 d0 d1 e0 e1
  obtain ⟨⟨⟨c0, c1, c2, c3, c4⟩, ⟨d0, d1⟩, e0, e1⟩, _⟩ := HQ.out w2 (HUP.out w2 HC2.out.2)
  go_wp2_with fail
  refine (reached_calls fo lo fc lc F Ls HC2.out.1 HC2.out.2.size hs k1 HA.out.1.ok HA.out.1.len HA.out.1.few (fun wx hx => (HMA.out wx (HC2.out.2.trans hx)).1) HA.out.1.form).mono ?_
  rintro e w3 ⟨sv3, mo, mc, r, vs, out, hrun, rfl, hC3, ho3, hb3, hlow3⟩
  have H3 : Hid (Clm w1.heap.size w3 n L sv3 vs (waits vs r) ∧ w3.ownsRow w1.heap.size 38 3 (.slice mo out.length mc) out.length (snv (out.map nos)) ∧ Below w1.heap.size w1 w3 ∧ Low vs) := ⟨hC3, ho3, HC2.out.2.trans hb3, hlow3⟩
  have HRUN : Hid (run (rowL F Ls) n 0 (start n s) [] = (vs, out)) := hrun
  have HOUT : Hid ((∀ x ∈ out, x.1 < n) ∧ out.length ≤ n) := by
    have g1 := run_out (rowL F Ls) n 0 (start n s) []
    have g2 := run_len (rowL F Ls) n 0 (start n s) []
    rw [hrun] at g1 g2
    refine ⟨fun x hx => ?_, by simpa using g2⟩
    rcases g1 x hx with g | g
    · simp at g
    · omega
  clear hC3 ho3 hb3 hlow3 hrun c0 c1 c2 c3 c4 d0 d1 e0 e1
  obtain ⟨⟨⟨c0, c1, c2, c3, c4⟩, ⟨d0, d1⟩, e0, e1⟩, _⟩ := HQ.out w3 (HUP.out w3 H3.out.2.2.1)
  go_wp2_with fail
  refine (stall_calls fo' lo' fc' lc' F' Ls' out H3.out.1 H3.out.2.2.1.size H3.out.2.1 HOUT.out.1 (Nat.le_trans HOUT.out.2 k1) H3.out.2.2.2 k1 HA.out.2.ok HA.out.2.len HA.out.2.few (fun wx hx => (HMA.out wx (H3.out.2.2.1.trans hx)).2) HA.out.2.form).mono ?_
  rintro e w4 ⟨rfl, ho4, hb4⟩
  have H4 : Hid (w4.ownsRow w1.heap.size 38 3 (.slice mo out.length mc) out.length (snv (out.map (stl vs (rowL F' Ls')))) ∧ Below w1.heap.size w1 w4) := ⟨ho4, H3.out.2.2.1.trans hb4⟩
  clear ho4 hb4 c0 c1 c2 c3 c4 d0 d1 e0 e1
  go_wp2
  go_ret2
  have hlen : (out.map (stl vs (rowL F' Ls'))).length = out.length := List.length_map ..
  refine ⟨mo, mc, out.map (stl vs (rowL F' Ls')), ?_, by rw [hlen]; rfl, ?_, (HQ.out w4 (HUP.out w4 H4.out.2)).2⟩
  · unfold climbed
    rw [HRUN.out]
    rfl
  · rw [hlen]
    exact own_mono H4.out.1 (Nat.le_trans (HQ.out W0 (Below.refl _ _)).2.size HB1.out.size)

/-- what a search refuses. -/
def Refuses (h : Hr) (s : Int) : Prop := chk h ≠ (0, []) ∨ s < 0 ∨ (h.node.length : Int) ≤ s
/-- by which error. -/
def cErr (h : Hr) : Int × List (Int × Int) := if chk h = (0, []) then (7, []) else chk h
theorem cErr_no {h : Hr} (hc : chk h = (0, [])) : cErr h = (7, []) := by unfold cErr; rw [if_pos hc]
theorem cErr_chk {h : Hr} (hc : ¬ chk h = (0, [])) : cErr h = chk h := by unfold cErr; rw [if_neg hc]

set_option maxRecDepth 100000 in
set_option maxHeartbeats 4000000 in
theorem search_bad (v : HV) (h : Hr) (s : Int) (fo lo : Option Addr) (k1 k2 fc lc : Nat) (fo' lo' : Option Addr) (k1' k2' fc' lc' : Nat) (w : World) (hH : HasH w v h) (hb1 : h.up.length ≤ 1152921504606846976) (hb2 : h.dn.length ≤ 1152921504606846976) (hb3 : h.node.length ≤ 1152921504606846976) (hr : Refuses h s) :
    Calls Try.prog 19 #[hvl v h, .int .i64 s, .agg #[.slice fo k1 fc, .slice lo k2 lc], .agg #[.slice fo' k1' fc', .slice lo' k2' lc']] w fun e w' => ∃ T x, e = .returned (.tuple #[.slice none 0 0, .iface T x]) ∧ IsTold w' (cErr h) (.iface T x) ∧ Below w.heap.size w w' := by
  obtain ⟨z, hz⟩ : ∃ z, w.heap.size = z := ⟨_, rfl⟩
  obtain ⟨W0, hW0⟩ : ∃ W0, ((w.alloc (.cells (cellsH v h) 25)).alloc (.cells #[.slice fo k1 fc, .slice lo k2 lc] 55)).alloc (.cells #[.slice fo' k1' fc', .slice lo' k2' lc'] 55) = W0 := ⟨_, rfl⟩
  have hB0 : Below w.heap.size w W0 := by rw [← hW0]; exact (((Below.refl _ w).alloc (Nat.le_refl _) _).alloc (by simp) _).alloc (by simp; omega) _
  have h0 : W0.heap[z]? = some (.cells (cellsH v h) 25) := by
    rw [← hW0, ← hz]; exact ((Below.heap_alloc _ _ _ (by simp; omega)).trans (Below.heap_alloc _ _ _ (by simp))).trans (heap_newW _ _)
  have HQ : Hid (∀ wx, Below W0.heap.size W0 wx → (wx.cell? ⟨z, 0, none⟩ = some (.slice v.no h.node.length v.nc) ∧ wx.cell? ⟨z, 1, none⟩ = some (.slice v.uo h.upF.length v.uc) ∧ wx.cell? ⟨z, 2, none⟩ = some (.slice v.ul h.up.length v.ulc) ∧ wx.cell? ⟨z, 3, none⟩ = some (.slice v.wo h.dnF.length v.wc) ∧ wx.cell? ⟨z, 4, none⟩ = some (.slice v.dl h.dn.length v.dlc)) ∧ Below w.heap.size w wx) := fun wx hx => ⟨five_cells ((hx.block _ (some_lt h0)).trans h0), hB0.trans (hx.mono hB0.size)⟩
  have HCK : Hid (Calls Try.prog 27 #[hvl v h] W0 fun e w' => ∃ u, e = .returned u ∧ IsTold w' (chk h) u ∧ Below W0.heap.size W0 w') := check_calls v h W0 (hH.keep hB0) hb1 hb2 hb3
  have HW0 : Hid (((w.alloc (.cells (cellsH v h) 25)).alloc (.cells #[.slice fo k1 fc, .slice lo k2 lc] 55)).alloc (.cells #[.slice fo' k1' fc', .slice lo' k2' lc'] 55) = W0) := hW0
  have HR : Hid (Refuses h s) := hr
  obtain ⟨⟨c0, c1, c2, c3, c4⟩, _⟩ := HQ.out W0 (Below.refl _ _)
  clear hW0 h0 hB0 hH hr
  unfold cellsH at HW0
  unfold hvl at HCK ⊢
  go_enter Try.func19, Try.ntmps19
  go_upto_region 1 with fail
  rw [HW0.out]
  go_wp2_with fail
  refine HCK.out.mono ?_
  rintro e w1 ⟨u, rfl, ht, hbb1⟩
  have HB1 : Hid (Below W0.heap.size W0 w1) := hbb1
  by_cases hc : chk h = (0, [])
  · rw [hc] at ht
    have hu := isTold_nil ht
    subst hu
    have hs : s < 0 ∨ (h.node.length : Int) ≤ s := HR.out.resolve_left (fun g => g hc)
    have HCE : Hid (cErr h = (7, [])) := cErr_no hc
    clear hbb1 c0 c1 c2 c3 c4 ht hc
    obtain ⟨⟨c0, c1, c2, c3, c4⟩, _⟩ := HQ.out w1 HB1.out
    by_cases hneg : s < 0
    · have i1 : decide (s < 0) = true := by simpa using hneg
      clear hs
      go_wp2
      go_ret2
      exact ⟨_, _, rfl, by rw [HCE.out]; exact told_num _ (by decide), (HQ.out w1 HB1.out).2⟩
    · have i1 : decide (s < 0) = false := by simpa using hneg
      have hge : (h.node.length : Int) ≤ s := hs.resolve_left hneg
      have i2 : decide ((h.node.length : Int) ≤ s) = true := by simpa using hge
      clear hs
      go_wp2
      go_ret2
      exact ⟨_, _, rfl, by rw [HCE.out]; exact told_num _ (by decide), (HQ.out w1 HB1.out).2⟩
  · obtain ⟨tt, xx, hu1, _⟩ := isTold_some ht hc
    subst hu1
    have HTT : Hid (IsTold w1 (cErr h) (.iface tt xx)) := by rw [cErr_chk hc]; exact ht
    clear hbb1 c0 c1 c2 c3 c4 ht
    go_wp2
    go_ret2
    exact ⟨tt, xx, rfl, HTT.out, (HQ.out w1 HB1.out).2⟩
/-- the rows of a hierarchy in form. -/
theorem rows_up {v : HV} {h : Hr} {w : World} (hH : HasH w v h) (hc : chk h = (0, [])) : RowsOk w h.node.length v.uo v.ul v.uc v.ulc h.upF h.up := by
  obtain ⟨k1, k2, k3, k4, k5, k6, k7, k8⟩ := chk_ok hc
  exact ⟨hH.upF, hH.up, k5, k3, by omega, fun r hr l hl => row_form hc hr (Or.inl hl)⟩
theorem rows_dn {v : HV} {h : Hr} {w : World} (hH : HasH w v h) (hc : chk h = (0, [])) : RowsOk w h.node.length v.wo v.dl v.wc v.dlc h.dnF h.dn := by
  obtain ⟨k1, k2, k3, k4, k5, k6, k7, k8⟩ := chk_ok hc
  exact ⟨hH.dnF, hH.dn, k6, k4, by omega, fun r hr l hl => row_form hc hr (Or.inr hl)⟩
end Go.Proofs.Ytlehlghagddogaa.Cb

namespace Go.Proofs.Ytlehlghagddogaa.Cb
open Go.RowKit Go.Extern Go.Shelf Hi

attribute [local go_sem] Oper.semAt_some

set_option maxRecDepth 100000 in
set_option maxHeartbeats 4000000 in
theorem up_ok (v : HV) (h : Hr) (s : Nat) (w : World) (hH : HasH w v h) (hc : chk h = (0, [])) (hs : s < h.node.length) :
    Calls Try.prog 7 #[hvl v h, .int .i64 (s : Int)] w fun e w' => ∃ (mo : Option Addr) (mc : Nat) (X : List (Nat × Int × Bool)), X = upL h s ∧ e = .returned (.tuple #[.slice mo X.length mc, .nilIface]) ∧ w'.ownsRow w.heap.size 38 3 (.slice mo X.length mc) X.length (snv X) ∧ Below w.heap.size w w' := by
  obtain ⟨z, hz⟩ : ∃ z, w.heap.size = z := ⟨_, rfl⟩
  obtain ⟨W0, hW0⟩ : ∃ W0, w.alloc (.cells (cellsH v h) 25) = W0 := ⟨_, rfl⟩
  have hB0 : Below w.heap.size w W0 := by rw [← hW0]; exact (Below.refl _ w).alloc (Nat.le_refl _) _
  have h0 : W0.heap[z]? = some (.cells (cellsH v h) 25) := by rw [← hW0, ← hz]; exact heap_newW _ _
  obtain ⟨c0, c1, c2, c3, c4⟩ := five_cells h0
  have HW0 : Hid (w.alloc (.cells (cellsH v h) 25) = W0) := hW0
  have HB0 : Hid (Below w.heap.size w W0) := hB0
  have HSE : Hid (Calls Try.prog 19 #[hvl v h, .int .i64 (s : Int), .agg #[.slice v.uo h.upF.length v.uc, .slice v.ul h.up.length v.ulc], .agg #[.slice v.wo h.dnF.length v.wc, .slice v.dl h.dn.length v.dlc]] W0 fun e w' => ∃ (mo : Option Addr) (mc : Nat) (X : List (Nat × Int × Bool)), X = upL h s ∧ e = .returned (.tuple #[.slice mo X.length mc, .nilIface]) ∧ w'.ownsRow W0.heap.size 38 3 (.slice mo X.length mc) X.length (snv X) ∧ Below W0.heap.size W0 w') := search_good v h s v.uo v.ul v.uc v.ulc h.upF h.up v.wo v.dl v.wc v.dlc h.dnF h.dn W0 (hH.keep hB0) hc hs (rows_up (hH.keep hB0) hc) (rows_dn (hH.keep hB0) hc)
  clear hW0 h0 hB0 hH
  unfold cellsH at HW0
  unfold hvl at HSE ⊢
  go_enter Try.func7, Try.ntmps7
  go_wp2_with fail
  rw [HW0.out]
  refine HSE.out.mono ?_
  rintro e w1 ⟨mo, mc, X, hX, rfl, ho, hb⟩
  have H1 : Hid (X = upL h s ∧ w1.ownsRow w.heap.size 38 3 (.slice mo X.length mc) X.length (snv X) ∧ Below w.heap.size w w1) := ⟨hX, own_mono ho HB0.out.size, HB0.out.trans (hb.mono HB0.out.size)⟩
  clear hX ho hb
  go_wp2
  go_ret2
  exact ⟨mo, mc, X, H1.out.1, rfl, H1.out.2.1, H1.out.2.2⟩

set_option maxRecDepth 100000 in
set_option maxHeartbeats 4000000 in
theorem up_bad (v : HV) (h : Hr) (s : Int) (w : World) (hH : HasH w v h) (hb1 : h.up.length ≤ 1152921504606846976) (hb2 : h.dn.length ≤ 1152921504606846976) (hb3 : h.node.length ≤ 1152921504606846976) (hr : Refuses h s) :
    Calls Try.prog 7 #[hvl v h, .int .i64 s] w fun e w' => ∃ T x, e = .returned (.tuple #[.slice none 0 0, .iface T x]) ∧ IsTold w' (cErr h) (.iface T x) ∧ Below w.heap.size w w' := by
  obtain ⟨z, hz⟩ : ∃ z, w.heap.size = z := ⟨_, rfl⟩
  obtain ⟨W0, hW0⟩ : ∃ W0, w.alloc (.cells (cellsH v h) 25) = W0 := ⟨_, rfl⟩
  have hB0 : Below w.heap.size w W0 := by rw [← hW0]; exact (Below.refl _ w).alloc (Nat.le_refl _) _
  have h0 : W0.heap[z]? = some (.cells (cellsH v h) 25) := by rw [← hW0, ← hz]; exact heap_newW _ _
  obtain ⟨c0, c1, c2, c3, c4⟩ := five_cells h0
  have HW0 : Hid (w.alloc (.cells (cellsH v h) 25) = W0) := hW0
  have HB0 : Hid (Below w.heap.size w W0) := hB0
  have HSE : Hid (Calls Try.prog 19 #[hvl v h, .int .i64 s, .agg #[.slice v.uo h.upF.length v.uc, .slice v.ul h.up.length v.ulc], .agg #[.slice v.wo h.dnF.length v.wc, .slice v.dl h.dn.length v.dlc]] W0 fun e w' => ∃ T x, e = .returned (.tuple #[.slice none 0 0, .iface T x]) ∧ IsTold w' (cErr h) (.iface T x) ∧ Below W0.heap.size W0 w') := search_bad v h s _ _ _ _ _ _ _ _ _ _ _ _ W0 (hH.keep hB0) hb1 hb2 hb3 hr
  clear hr
  clear hW0 h0 hB0 hH
  unfold cellsH at HW0
  unfold hvl at HSE ⊢
  go_enter Try.func7, Try.ntmps7
  go_wp2_with fail
  rw [HW0.out]
  refine HSE.out.mono ?_
  rintro e w1 ⟨T, x, rfl, ht, hb⟩
  have H1 : Hid (IsTold w1 (cErr h) (.iface T x) ∧ Below w.heap.size w w1) := ⟨ht, HB0.out.trans (hb.mono HB0.out.size)⟩
  clear hb ht
  go_wp2
  go_ret2
  exact ⟨T, x, rfl, H1.out.1, H1.out.2⟩

set_option maxRecDepth 100000 in
set_option maxHeartbeats 4000000 in
theorem down_ok (v : HV) (h : Hr) (s : Nat) (w : World) (hH : HasH w v h) (hc : chk h = (0, [])) (hs : s < h.node.length) :
    Calls Try.prog 8 #[hvl v h, .int .i64 (s : Int)] w fun e w' => ∃ (mo : Option Addr) (mc : Nat) (X : List (Nat × Int × Bool)), X = dnL h s ∧ e = .returned (.tuple #[.slice mo X.length mc, .nilIface]) ∧ w'.ownsRow w.heap.size 38 3 (.slice mo X.length mc) X.length (snv X) ∧ Below w.heap.size w w' := by
  obtain ⟨z, hz⟩ : ∃ z, w.heap.size = z := ⟨_, rfl⟩
  obtain ⟨W0, hW0⟩ : ∃ W0, w.alloc (.cells (cellsH v h) 25) = W0 := ⟨_, rfl⟩
  have hB0 : Below w.heap.size w W0 := by rw [← hW0]; exact (Below.refl _ w).alloc (Nat.le_refl _) _
  have h0 : W0.heap[z]? = some (.cells (cellsH v h) 25) := by rw [← hW0, ← hz]; exact heap_newW _ _
  obtain ⟨c0, c1, c2, c3, c4⟩ := five_cells h0
  have HW0 : Hid (w.alloc (.cells (cellsH v h) 25) = W0) := hW0
  have HB0 : Hid (Below w.heap.size w W0) := hB0
  have HSE : Hid (Calls Try.prog 19 #[hvl v h, .int .i64 (s : Int), .agg #[.slice v.wo h.dnF.length v.wc, .slice v.dl h.dn.length v.dlc], .agg #[.slice v.uo h.upF.length v.uc, .slice v.ul h.up.length v.ulc]] W0 fun e w' => ∃ (mo : Option Addr) (mc : Nat) (X : List (Nat × Int × Bool)), X = dnL h s ∧ e = .returned (.tuple #[.slice mo X.length mc, .nilIface]) ∧ w'.ownsRow W0.heap.size 38 3 (.slice mo X.length mc) X.length (snv X) ∧ Below W0.heap.size W0 w') := search_good v h s v.wo v.dl v.wc v.dlc h.dnF h.dn v.uo v.ul v.uc v.ulc h.upF h.up W0 (hH.keep hB0) hc hs (rows_dn (hH.keep hB0) hc) (rows_up (hH.keep hB0) hc)
  clear hW0 h0 hB0 hH
  unfold cellsH at HW0
  unfold hvl at HSE ⊢
  go_enter Try.func8, Try.ntmps8
  go_wp2_with fail
  rw [HW0.out]
  refine HSE.out.mono ?_
  rintro e w1 ⟨mo, mc, X, hX, rfl, ho, hb⟩
  have H1 : Hid (X = dnL h s ∧ w1.ownsRow w.heap.size 38 3 (.slice mo X.length mc) X.length (snv X) ∧ Below w.heap.size w w1) := ⟨hX, own_mono ho HB0.out.size, HB0.out.trans (hb.mono HB0.out.size)⟩
  clear hX ho hb
  go_wp2
  go_ret2
  exact ⟨mo, mc, X, H1.out.1, rfl, H1.out.2.1, H1.out.2.2⟩

set_option maxRecDepth 100000 in
set_option maxHeartbeats 4000000 in
theorem down_bad (v : HV) (h : Hr) (s : Int) (w : World) (hH : HasH w v h) (hb1 : h.up.length ≤ 1152921504606846976) (hb2 : h.dn.length ≤ 1152921504606846976) (hb3 : h.node.length ≤ 1152921504606846976) (hr : Refuses h s) :
    Calls Try.prog 8 #[hvl v h, .int .i64 s] w fun e w' => ∃ T x, e = .returned (.tuple #[.slice none 0 0, .iface T x]) ∧ IsTold w' (cErr h) (.iface T x) ∧ Below w.heap.size w w' := by
  obtain ⟨z, hz⟩ : ∃ z, w.heap.size = z := ⟨_, rfl⟩
  obtain ⟨W0, hW0⟩ : ∃ W0, w.alloc (.cells (cellsH v h) 25) = W0 := ⟨_, rfl⟩
  have hB0 : Below w.heap.size w W0 := by rw [← hW0]; exact (Below.refl _ w).alloc (Nat.le_refl _) _
  have h0 : W0.heap[z]? = some (.cells (cellsH v h) 25) := by rw [← hW0, ← hz]; exact heap_newW _ _
  obtain ⟨c0, c1, c2, c3, c4⟩ := five_cells h0
  have HW0 : Hid (w.alloc (.cells (cellsH v h) 25) = W0) := hW0
  have HB0 : Hid (Below w.heap.size w W0) := hB0
  have HSE : Hid (Calls Try.prog 19 #[hvl v h, .int .i64 s, .agg #[.slice v.wo h.dnF.length v.wc, .slice v.dl h.dn.length v.dlc], .agg #[.slice v.uo h.upF.length v.uc, .slice v.ul h.up.length v.ulc]] W0 fun e w' => ∃ T x, e = .returned (.tuple #[.slice none 0 0, .iface T x]) ∧ IsTold w' (cErr h) (.iface T x) ∧ Below W0.heap.size W0 w') := search_bad v h s _ _ _ _ _ _ _ _ _ _ _ _ W0 (hH.keep hB0) hb1 hb2 hb3 hr
  clear hr
  clear hW0 h0 hB0 hH
  unfold cellsH at HW0
  unfold hvl at HSE ⊢
  go_enter Try.func8, Try.ntmps8
  go_wp2_with fail
  rw [HW0.out]
  refine HSE.out.mono ?_
  rintro e w1 ⟨T, x, rfl, ht, hb⟩
  have H1 : Hid (IsTold w1 (cErr h) (.iface T x) ∧ Below w.heap.size w w1) := ⟨ht, HB0.out.trans (hb.mono HB0.out.size)⟩
  clear hb ht
  go_wp2
  go_ret2
  exact ⟨T, x, rfl, H1.out.1, H1.out.2⟩

set_option maxRecDepth 100000 in
set_option maxHeartbeats 2000000 in
theorem great20_calls (v : HV) (h : Hr) (w : World) (hb1 : h.up.length ≤ 1152921504606846976) (hb2 : h.dn.length ≤ 1152921504606846976) :
    Calls Try.prog 5 #[hvl v h] w fun e w' => e = .returned (.bool (greatB h)) ∧ Below w.heap.size w w' := by
  obtain ⟨W0, hW0⟩ : ∃ W0, w.alloc (.cells (cellsH v h) 25) = W0 := ⟨_, rfl⟩
  have h0 : ∀ wx, Below W0.heap.size W0 wx → wx.heap[w.heap.size]? = some (.cells (cellsH v h) 25) ∧ Below w.heap.size w wx := fun wx hx => by
    have h1 : W0.heap[w.heap.size]? = some (.cells (cellsH v h) 25) := by rw [← hW0]; exact heap_newW _ _
    have h2 : Below w.heap.size w W0 := by rw [← hW0]; exact (Below.refl _ _).alloc (Nat.le_refl _) _
    exact ⟨(hx.block _ (some_lt h1)).trans h1, h2.trans (hx.mono h2.size)⟩
  have HW0 : Hid (w.alloc (.cells (cellsH v h) 25) = W0) := hW0
  have H0 : Hid (type_of% h0) := h0
  have HC : Hid (∀ wx, Calls Try.prog 16 #[hvl v h] wx fun e w' => e = .returned (.int .i64 ((h.up.length + h.dn.length : Nat) : Int)) ∧ w' = wx.alloc (.cells (cellsH v h) 25)) := fun wx => count_calls v h wx hb1 hb2
  obtain ⟨c0, c1, c2, c3, c4⟩ := five_cells (h0 W0 (Below.refl _ _)).1
  clear hW0 h0
  unfold hvl at HC ⊢
  unfold greatB
  generalize hc : h.up.length + h.dn.length = C at *
  have HS : Hid (w.heap.size < W0.heap.size) := some_lt (H0.out W0 (Below.refl _ _)).1
  unfold cellsH at HW0
  go_enter Try.func5, Try.ntmps5
  go_upto_region 1 with fail
  rw [HW0.out]
  by_cases g1 : 2000 < C
  · have d1 : decide ((C : Int) > 2000) = true := by simp; omega
    by_cases g2 : C ≤ 1048576
    · have d2 : decide ((C : Int) ≤ 1048576) = true := by simp; omega
      go_wp2_with (go_at_call 16; refine (HC.out _).mono ?_; rintro e w' ⟨rfl, rfl⟩; obtain ⟨k0, k1, k2, k3, k4⟩ := five_cells (H0.out _ ((Below.refl _ W0).alloc (Nat.le_refl _) (.cells (cellsH v h) 25))).1)
      go_ret
      exact ⟨by rw [decide_eq_true g1, decide_eq_true g2]; rfl, (H0.out _ (((Below.refl _ W0).alloc (Nat.le_refl _) _).alloc (by simp) _)).2⟩
    · have d2 : decide ((C : Int) ≤ 1048576) = false := by simp; omega
      go_wp2_with (go_at_call 16; refine (HC.out _).mono ?_; rintro e w' ⟨rfl, rfl⟩; obtain ⟨k0, k1, k2, k3, k4⟩ := five_cells (H0.out _ ((Below.refl _ W0).alloc (Nat.le_refl _) (.cells (cellsH v h) 25))).1)
      go_ret
      exact ⟨by rw [decide_eq_true g1, decide_eq_false g2]; rfl, (H0.out _ (((Below.refl _ W0).alloc (Nat.le_refl _) _).alloc (by simp) _)).2⟩
  · have d1 : decide ((C : Int) > 2000) = false := by simp; omega
    go_wp2_with (go_at_call 16; refine (HC.out _).mono ?_; rintro e w' ⟨rfl, rfl⟩; obtain ⟨k0, k1, k2, k3, k4⟩ := five_cells (H0.out _ ((Below.refl _ W0).alloc (Nat.le_refl _) (.cells (cellsH v h) 25))).1)
    go_ret
    exact ⟨by rw [decide_eq_false g1]; rfl, (H0.out _ ((Below.refl _ W0).alloc (Nat.le_refl _) _)).2⟩

theorem infoRs : (Try.prog.info? 49).map (fun i => (i.zero, i.size, i.bytes)) = some (some (.agg #[.int .i64 0, .int .u64 0, .bool false]), 3, 24) := by kernel_rfl
set_option maxRecDepth 100000 in
set_option maxHeartbeats 2000000 in
theorem of_calls (B : Nat) (lo : Option Addr) (lc : Nat) (X : List (Nat × Int × Bool)) (w : World) (hl : w.ownsRow B 38 3 (.slice lo X.length lc) X.length (snv X)) (hm : X.length ≤ 65536) :
    Calls Try.prog 13 #[.slice lo X.length lc] w fun e w' => ∃ mo mc, e = .returned (.slice mo X.length mc) ∧ w'.ownsRow w.heap.size 49 3 (.slice mo X.length mc) X.length (snv X) ∧ Below w.heap.size w w' := by
  have HL : Hid (w.ownsRow B 38 3 (.slice lo X.length lc) X.length (snv X)) := hl
  obtain ⟨i0, hi9, hzz⟩ := Option.map_eq_some_iff.1 infoRs
  simp only [Prod.mk.injEq] at hzz
  have HI : Hid (Try.prog.info? 49 = some i0 ∧ i0.zero = some (.agg #[.int .i64 0, .int .u64 0, .bool false]) ∧ i0.size = 3 ∧ i0.bytes = 24) := ⟨hi9, hzz⟩
  clear hl hi9 hzz
  go_enter Try.func13, Try.ntmps13
  go_wp2_with fail
  go_loopw [3, 8] (fun mv nv wr => ∃ (k : Nat) (so : Option Addr) (sc : Nat), k ≤ X.length ∧ nv = .int .i64 k ∧ mv = .slice so k sc ∧ wr.ownsRow w.heap.size 49 3 (.slice so k sc) k (snv (X.take k)) ∧ Below w.heap.size w wr) (fun _ nv _ => X.length - (intOf nv).toNat)
  case atStart => exact ⟨0, none, 0, Nat.zero_le _, rfl, rfl, World.ownsRow_nil _ _ _ _, Below.refl _ _⟩
  case round =>
    obtain ⟨k, so, sc, hk, rfl, rfl, hO, hB⟩ := hrel
    have HK : Hid (wr.ownsRow w.heap.size 49 3 (.slice so k sc) k (snv (X.take k)) ∧ Below w.heap.size w wr) := ⟨hO, hB⟩
    by_cases hlt : k < X.length
    · obtain ⟨⟨x, d, bb⟩, ha⟩ : ∃ a, X[k]? = some a := ⟨X[k], List.getElem?_eq_getElem hlt⟩
      have hown := own_below HL.out hB
      obtain ⟨g, hg⟩ : ∃ g, lo = some ⟨g, 0, none⟩ := by
        rcases hown.2 with ⟨e1, _⟩ | ⟨g, cap, cur, e1, _⟩
        · simp at e1; omega
        · simp at e1; exact ⟨g, e1.1⟩
      subst hg
      obtain ⟨s0, s1, s2⟩ := snv_get _ k _ ha
      have c0 := (hown.cellAt (k * 3) (by omega)).trans s0
      have c1 := (hown.cellAt (k * 3 + 1) (by omega)).trans s1
      have c2 := (hown.cellAt (k * 3 + 2) (by omega)).trans s2
      have HT1 : Hid (X.take (k + 1) = X.take k ++ [(x, d, bb)]) := by show _ = _; rw [List.take_add_one, ha]; rfl
      have i1 : (k : Int) < (X.length : Int) := by omega
      have i2 : (0 : Int) ≤ (k : Int) := by omega
      clear ha hO hB hown s0 s1 s2
      go_wp2_with (at_builtin; refine wpList_append_own _ rfl _ _ 39 rfl w.heap.size 49 i0 (.agg #[.int .i64 0, .int .u64 0, .bool false]) 3 24 Try.underlying39 HI.out.1 HI.out.2.1 HI.out.2.2.1 HI.out.2.2.2 rfl (by decide) _ k (snv (X.take k)) rfl ((HK.out.1.alloc _).alloc _) ⟨wr.heap.size + 1, 0, none⟩ 1 1 (snv [(x, d, bb)]) rfl rfl (by have g := new_cells (wr.alloc (.cells #[.int .i64 (x : Int), .int .u64 d, .bool bb] 38)) (snv [(x, d, bb)]) 49; rw [World.size_alloc] at g; exact g) (snv_one _) (by unfold maxLen; omega) (by omega) (by have := HK.out.2.size; simp; omega) ?_; intro v5 w5 hown5 hgr5 _; have H5 : Hid (w5.ownsRow w.heap.size 49 3 v5 (k + 1) (snv (X.take (k + 1))) ∧ Below w.heap.size w w5) := ⟨by rw [HT1.out, snv_append]; exact hown5, below_grown ((HK.out.2.alloc HK.out.2.size _).alloc (by have := HK.out.2.size; simp; omega) _) ((HK.out.1.alloc _).alloc _) hgr5 (by have := HK.out.2.size; simp; omega)⟩; clear hown5 hgr5; obtain ⟨po, pc, hv5⟩ := own_slice H5.out.1; subst hv5)
      exact ⟨⟨k + 1, po, pc, by omega, by rw [show (k : Int) + 1 = ((k + 1 : Nat) : Int) by omega], rfl, H5.out.1, H5.out.2⟩, by simp only [intOf]; omega⟩
    · obtain rfl : k = X.length := by omega
      have HK2 : Hid (wr.ownsRow w.heap.size 49 3 (.slice so X.length sc) X.length (snv X) ∧ Below w.heap.size w wr) := ⟨by rw [List.take_length] at hO; exact hO, hB⟩
      clear hO hB HK
      go_wp2_with fail
      go_ret
      exact ⟨so, sc, rfl, HK2.out.1, HK2.out.2⟩

set_option maxRecDepth 100000 in
set_option maxHeartbeats 2000000 in
theorem sSame_yes (B B' : Nat) (lo mo : Option Addr) (lc mc : Nat) (X : List (Nat × Int × Bool)) (w : World) (hl : w.ownsRow B 49 3 (.slice lo X.length lc) X.length (snv X)) (hr : w.ownsRow B' 49 3 (.slice mo X.length mc) X.length (snv X)) (hm : X.length ≤ 65536) :
    Calls Try.prog 12 #[.slice lo X.length lc, .slice mo X.length mc] w fun e w' => e = .returned (.bool true) ∧ Below w.heap.size w w' := by
  have HL : Hid (w.ownsRow B 49 3 (.slice lo X.length lc) X.length (snv X) ∧ w.ownsRow B' 49 3 (.slice mo X.length mc) X.length (snv X)) := ⟨hl, hr⟩
  clear hl hr
  go_enter Try.func12, Try.ntmps12
  go_wp2_with fail
  go_loopw [13] (fun nv wr => ∃ (k : Nat), k ≤ X.length ∧ nv = .int .i64 k ∧ Hid (Below w.heap.size w wr)) (fun nv _ => X.length - (intOf nv).toNat)
  case atStart => exact ⟨0, Nat.zero_le _, rfl, Below.refl _ _⟩
  case round =>
    obtain ⟨k, hk, rfl, HB⟩ := hrel
    by_cases hlt : k < X.length
    · obtain ⟨⟨x, d, bb⟩, ha⟩ : ∃ a, X[k]? = some a := ⟨X[k], List.getElem?_eq_getElem hlt⟩
      have ho1 := own_below HL.out.1 HB.out
      have ho2 := own_below HL.out.2 HB.out
      obtain ⟨g, hg⟩ : ∃ g, lo = some ⟨g, 0, none⟩ := by
        rcases ho1.2 with ⟨e1, _⟩ | ⟨g, cap, cur, e1, _⟩
        · simp at e1; omega
        · simp at e1; exact ⟨g, e1.1⟩
      obtain ⟨g', hg'⟩ : ∃ g, mo = some ⟨g, 0, none⟩ := by
        rcases ho2.2 with ⟨e1, _⟩ | ⟨g, cap, cur, e1, _⟩
        · simp at e1; omega
        · simp at e1; exact ⟨g, e1.1⟩
      subst hg hg'
      obtain ⟨s0, s1, s2⟩ := snv_get _ k _ ha
      have c0 := (ho1.cellAt (k * 3) (by omega)).trans s0
      have c1 := (ho1.cellAt (k * 3 + 1) (by omega)).trans s1
      have c2 := (ho1.cellAt (k * 3 + 2) (by omega)).trans s2
      have d0 := (ho2.cellAt (k * 3) (by omega)).trans s0
      have d1 := (ho2.cellAt (k * 3 + 1) (by omega)).trans s1
      have d2 := (ho2.cellAt (k * 3 + 2) (by omega)).trans s2
      have i1 : (k : Int) < (X.length : Int) := by omega
      have i2 : (0 : Int) ≤ (k : Int) := by omega
      clear ha ho1 ho2 s0 s1 s2
      go_wp2_with fail
      go_quiet (fail)
      go_wp2
      go_roundw
      case rel => exact ⟨k + 1, by omega, by go_num, ⟨HB.out.os, HB.out.tape, HB.out.output, HB.out.size, HB.out.block⟩⟩
      case measure => simp [intOf]; omega
    · obtain rfl : k = X.length := by omega
      go_wp2
      go_ret
      exact ⟨rfl, HB.out⟩
end Go.Proofs.Ytlehlghagddogaa.Cb

namespace Go.Proofs.Ytlehlghagddogaa.Hi
open Go.RowKit Go.Extern Go.Shelf

end Go.Proofs.Ytlehlghagddogaa.Hi

namespace Go.Proofs.Ytlehlghagddogaa.Cb
open Go.RowKit Go.Extern Go.Sort Go.Shelf Hi

attribute [local go_sem] Oper.semAt_some

def stallsH : Hr := ⟨[0, 1, 2], [0, 2, 2, 2], [⟨1, 9, 4294967295, 4294967295⟩, ⟨2, 1, 4294967295, 4294967295⟩], [0, 0, 1, 1], [⟨2, 3, 4294967295, 4294967295⟩]⟩
theorem chk_stalls : chk stallsH = (0, []) := by kernel_rfl
theorem up_stalls : upL stallsH 0 = [(0, 0, false), (1, 9, true), (2, 1, false)] := by kernel_rfl
theorem dn_three : dnL three 0 = [(0, 0, false), (1, 4, false)] := by kernel_rfl
set_option maxRecDepth 100000 in
set_option maxHeartbeats 2000000 in
theorem stalls_calls (w : World) : Calls Try.prog 14 #[] w fun e w' => ∃ v, e = .returned (hvl v stallsH) ∧ HasH w' v stallsH ∧ Below w.heap.size w w' := by
  go_enter Try.func14, Try.ntmps14
  go_wp2
  have hl := lays_get [.cells #[.slice (some ⟨w.heap.size + 1, 0, none⟩) 3 3, .slice (some ⟨w.heap.size + 1 + 1, 0, none⟩) 4 4, .slice (some ⟨w.heap.size + 1 + 1 + 1, 0, none⟩) 2 2, .slice (some ⟨w.heap.size + 1 + 1 + 1 + 1, 0, none⟩) 4 4, .slice (some ⟨w.heap.size + 1 + 1 + 1 + 1 + 1, 0, none⟩) 1 1] 25, .cells (wvs stallsH.node).toArray 62, .cells (wvs stallsH.upF).toArray 62, .cells (lvs stallsH.up).toArray 64, .cells (wvs stallsH.dnF).toArray 62, .cells (lvs stallsH.dn).toArray 64] w
  have hb := lays_below [.cells #[.slice (some ⟨w.heap.size + 1, 0, none⟩) 3 3, .slice (some ⟨w.heap.size + 1 + 1, 0, none⟩) 4 4, .slice (some ⟨w.heap.size + 1 + 1 + 1, 0, none⟩) 2 2, .slice (some ⟨w.heap.size + 1 + 1 + 1 + 1, 0, none⟩) 4 4, .slice (some ⟨w.heap.size + 1 + 1 + 1 + 1 + 1, 0, none⟩) 1 1] 25, .cells (wvs stallsH.node).toArray 62, .cells (wvs stallsH.upF).toArray 62, .cells (lvs stallsH.up).toArray 64, .cells (wvs stallsH.dnF).toArray 62, .cells (lvs stallsH.dn).toArray 64] w
  generalize hW : lays w [.cells #[.slice (some ⟨w.heap.size + 1, 0, none⟩) 3 3, .slice (some ⟨w.heap.size + 1 + 1, 0, none⟩) 4 4, .slice (some ⟨w.heap.size + 1 + 1 + 1, 0, none⟩) 2 2, .slice (some ⟨w.heap.size + 1 + 1 + 1 + 1, 0, none⟩) 4 4, .slice (some ⟨w.heap.size + 1 + 1 + 1 + 1 + 1, 0, none⟩) 1 1] 25, .cells (wvs stallsH.node).toArray 62, .cells (wvs stallsH.upF).toArray 62, .cells (lvs stallsH.up).toArray 64, .cells (wvs stallsH.dnF).toArray 62, .cells (lvs stallsH.dn).toArray 64] = W at hl hb
  have e0 := hl 0 _ rfl
  obtain ⟨c0, c1, c2, c3, c4⟩ := five_cells e0
  show bodyPost _ _ _ _ _ (lays w [.cells #[.slice (some ⟨w.heap.size + 1, 0, none⟩) 3 3, .slice (some ⟨w.heap.size + 1 + 1, 0, none⟩) 4 4, .slice (some ⟨w.heap.size + 1 + 1 + 1, 0, none⟩) 2 2, .slice (some ⟨w.heap.size + 1 + 1 + 1 + 1, 0, none⟩) 4 4, .slice (some ⟨w.heap.size + 1 + 1 + 1 + 1 + 1, 0, none⟩) 1 1] 25, .cells (wvs stallsH.node).toArray 62, .cells (wvs stallsH.upF).toArray 62, .cells (lvs stallsH.up).toArray 64, .cells (wvs stallsH.dnF).toArray 62, .cells (lvs stallsH.dn).toArray 64])
  rw [hW]
  refine bodyPost_ret (v := .agg #[.slice (some ⟨w.heap.size + 1, 0, none⟩) 3 3, .slice (some ⟨w.heap.size + 1 + 1, 0, none⟩) 4 4, .slice (some ⟨w.heap.size + 1 + 1 + 1, 0, none⟩) 2 2, .slice (some ⟨w.heap.size + 1 + 1 + 1 + 1, 0, none⟩) 4 4, .slice (some ⟨w.heap.size + 1 + 1 + 1 + 1 + 1, 0, none⟩) 1 1]) (by simp at c0 c1 c2 c3 c4; simp [results, Try.results14, go_sem, c0, c1, c2, c3, c4]) rfl ?_
  refine ⟨⟨some ⟨w.heap.size + 1, 0, none⟩, some ⟨w.heap.size + 1 + 1, 0, none⟩, some ⟨w.heap.size + 1 + 1 + 1, 0, none⟩, some ⟨w.heap.size + 1 + 1 + 1 + 1, 0, none⟩, some ⟨w.heap.size + 1 + 1 + 1 + 1 + 1, 0, none⟩, 3, 4, 2, 4, 1⟩, rfl, ⟨?_, ?_, ?_, ?_, ?_⟩, hb⟩
  · exact ws_new (hl 1 _ rfl) (by decide) (Nat.le_refl _)
  · exact ws_new (hl 2 _ rfl) (by decide) (Nat.le_refl _)
  · exact ls_new (hl 3 _ rfl) (by unfold Lk.ok; decide) (Nat.le_refl _)
  · exact ws_new (hl 4 _ rfl) (by decide) (Nat.le_refl _)
  · exact ls_new (hl 5 _ rfl) (by unfold Lk.ok; decide) (Nat.le_refl _)
set_option maxRecDepth 100000 in
set_option maxHeartbeats 4000000 in
theorem awake20_calls (w : World) : Calls Try.prog 4 #[] w fun e w' => e = .returned (.bool true) ∧ Below w.heap.size w w' := by
  have HS : Hid (∀ wx : World, Calls Try.prog 14 #[] wx fun e w' => ∃ v, e = .returned (hvl v stallsH) ∧ HasH w' v stallsH ∧ Below wx.heap.size wx w') := fun wx => stalls_calls wx
  have HT : Hid (∀ wx : World, Calls Try.prog 15 #[] wx fun e w' => ∃ v, e = .returned (hvl v three) ∧ HasH w' v three ∧ Below wx.heap.size wx w') := fun wx => three_calls wx
  have HU : Hid (∀ wx v, HasH wx v stallsH → Calls Try.prog 7 #[hvl v stallsH, .int .i64 0] wx fun e w' => ∃ mo mc, e = .returned (.tuple #[.slice mo 3 mc, .nilIface]) ∧ w'.ownsRow wx.heap.size 38 3 (.slice mo 3 mc) 3 (snv [(0, 0, false), (1, 9, true), (2, 1, false)]) ∧ Below wx.heap.size wx w') := fun wx v hv => (up_ok v stallsH 0 wx hv chk_stalls (by decide)).mono (by
    rintro e w' ⟨mo, mc, X, hX, rfl, ho, hb⟩
    rw [up_stalls] at hX
    subst hX
    exact ⟨mo, mc, rfl, ho, hb⟩)
  have HD : Hid (∀ wx v, HasH wx v three → Calls Try.prog 8 #[hvl v three, .int .i64 0] wx fun e w' => ∃ mo mc, e = .returned (.tuple #[.slice mo 2 mc, .nilIface]) ∧ w'.ownsRow wx.heap.size 38 3 (.slice mo 2 mc) 2 (snv [(0, 0, false), (1, 4, false)]) ∧ Below wx.heap.size wx w') := fun wx v hv => (down_ok v three 0 wx hv chk_three (by decide)).mono (by
    rintro e w' ⟨mo, mc, X, hX, rfl, ho, hb⟩
    rw [dn_three] at hX
    subst hX
    exact ⟨mo, mc, rfl, ho, hb⟩)
  have HO3 : Hid (∀ wx mo mc B, wx.ownsRow B 38 3 (.slice mo 3 mc) 3 (snv [(0, 0, false), (1, 9, true), (2, 1, false)]) → Calls Try.prog 13 #[.slice mo 3 mc] wx fun e w' => ∃ lo lc, e = .returned (.slice lo 3 lc) ∧ w'.ownsRow wx.heap.size 49 3 (.slice lo 3 lc) 3 (snv [(0, 0, false), (1, 9, true), (2, 1, false)]) ∧ Below wx.heap.size wx w') := fun wx mo mc B ho => of_calls B mo mc [(0, 0, false), (1, 9, true), (2, 1, false)] wx ho (by decide)
  have HO2 : Hid (∀ wx mo mc B, wx.ownsRow B 38 3 (.slice mo 2 mc) 2 (snv [(0, 0, false), (1, 4, false)]) → Calls Try.prog 13 #[.slice mo 2 mc] wx fun e w' => ∃ lo lc, e = .returned (.slice lo 2 lc) ∧ w'.ownsRow wx.heap.size 49 3 (.slice lo 2 lc) 2 (snv [(0, 0, false), (1, 4, false)]) ∧ Below wx.heap.size wx w') := fun wx mo mc B ho => of_calls B mo mc [(0, 0, false), (1, 4, false)] wx ho (by decide)
  have HS3 : Hid (∀ wx lo lc B mo mc B', wx.ownsRow B 49 3 (.slice lo 3 lc) 3 (snv [(0, 0, false), (1, 9, true), (2, 1, false)]) → wx.ownsRow B' 49 3 (.slice mo 3 mc) 3 (snv [(0, 0, false), (1, 9, true), (2, 1, false)]) → Calls Try.prog 12 #[.slice lo 3 lc, .slice mo 3 mc] wx fun e w' => e = .returned (.bool true) ∧ Below wx.heap.size wx w') := fun wx lo lc B mo mc B' h1 h2 => sSame_yes B B' lo mo lc mc [(0, 0, false), (1, 9, true), (2, 1, false)] wx h1 h2 (by decide)
  have HS2 : Hid (∀ wx lo lc B mo mc B', wx.ownsRow B 49 3 (.slice lo 2 lc) 2 (snv [(0, 0, false), (1, 4, false)]) → wx.ownsRow B' 49 3 (.slice mo 2 mc) 2 (snv [(0, 0, false), (1, 4, false)]) → Calls Try.prog 12 #[.slice lo 2 lc, .slice mo 2 mc] wx fun e w' => e = .returned (.bool true) ∧ Below wx.heap.size wx w') := fun wx lo lc B mo mc B' h1 h2 => sSame_yes B B' lo mo lc mc [(0, 0, false), (1, 4, false)] wx h1 h2 (by decide)
  go_enter Try.func4, Try.ntmps4
  go_wp2_with fail
  refine (HS.out w).mono ?_
  rintro e w1 ⟨v1, rfl, hH1, hb1⟩
  have H1 : Hid (HasH w1 v1 stallsH ∧ Below w.heap.size w w1) := ⟨hH1, hb1⟩
  clear hH1 hb1
  go_wp2_with fail
  refine (HU.out w1 v1 H1.out.1).mono ?_
  rintro e w2 ⟨m2, c2, rfl, ho2, hb2⟩
  have H2 : Hid (w2.ownsRow w1.heap.size 38 3 (.slice m2 3 c2) 3 (snv [(0, 0, false), (1, 9, true), (2, 1, false)]) ∧ Below w.heap.size w w2) := ⟨ho2, H1.out.2.trans (hb2.mono H1.out.2.size)⟩
  clear ho2 hb2
  go_wp2_with fail
  refine (HT.out w2).mono ?_
  rintro e w3 ⟨v3, rfl, hH3, hb3⟩
  have H3 : Hid (HasH w3 v3 three ∧ Below w2.heap.size w2 w3) := ⟨hH3, hb3⟩
  clear hH3 hb3
  go_wp2_with fail
  refine (HD.out w3 v3 H3.out.1).mono ?_
  rintro e w4 ⟨m4, c4, rfl, ho4, hb4⟩
  have H4 : Hid (w4.ownsRow w3.heap.size 38 3 (.slice m4 2 c4) 2 (snv [(0, 0, false), (1, 4, false)]) ∧ Below w2.heap.size w2 w4) := ⟨ho4, H3.out.2.trans (hb4.mono H3.out.2.size)⟩
  clear ho4 hb4
  go_wp2_with fail
  refine (HO3.out w4 m2 c2 w1.heap.size (own_below H2.out.1 H4.out.2)).mono ?_
  rintro e w5 ⟨m5, c5, rfl, ho5, hb5⟩
  have H5 : Hid (w5.ownsRow w4.heap.size 49 3 (.slice m5 3 c5) 3 (snv [(0, 0, false), (1, 9, true), (2, 1, false)]) ∧ Below w4.heap.size w4 w5) := ⟨ho5, hb5⟩
  clear ho5 hb5
  go_wp2_with fail
  have hb6 : Below w5.heap.size w5 (w5.alloc (.cells (snv [(0, 0, false), (1, 9, true), (2, 1, false)]).toArray 49)) := (Below.refl _ _).alloc (Nat.le_refl _) _
  have hl6 := World.ownsRow_lit (base := 0) (e := 49) (size := 3) w5 (snv [(0, 0, false), (1, 9, true), (2, 1, false)]).toArray 3 (Nat.zero_le _) (by decide) rfl
  refine (HS3.out (w5.alloc (.cells (snv [(0, 0, false), (1, 9, true), (2, 1, false)]).toArray 49)) m5 c5 w4.heap.size (some ⟨w5.heap.size, 0, none⟩) 3 0 (own_below H5.out.1 hb6) hl6).mono ?_
  rintro e w6 ⟨rfl, hb7⟩
  have H6 : Hid (Below w4.heap.size w4 w6) := H5.out.2.trans ((hb6.trans (hb7.mono hb6.size)).mono H5.out.2.size)
  clear hb6 hl6 hb7
  go_wp2_with fail
  refine (HO2.out w6 m4 c4 w3.heap.size (own_below H4.out.1 H6.out)).mono ?_
  rintro e w7 ⟨m7, c7, rfl, ho7, hb7⟩
  have H7 : Hid (w7.ownsRow w6.heap.size 49 3 (.slice m7 2 c7) 2 (snv [(0, 0, false), (1, 4, false)]) ∧ Below w6.heap.size w6 w7) := ⟨ho7, hb7⟩
  clear ho7 hb7
  go_wp2_with fail
  have hb8 : Below w7.heap.size w7 (w7.alloc (.cells (snv [(0, 0, false), (1, 4, false)]).toArray 49)) := (Below.refl _ _).alloc (Nat.le_refl _) _
  have hl8 := World.ownsRow_lit (base := 0) (e := 49) (size := 3) w7 (snv [(0, 0, false), (1, 4, false)]).toArray 2 (Nat.zero_le _) (by decide) rfl
  refine (HS2.out (w7.alloc (.cells (snv [(0, 0, false), (1, 4, false)]).toArray 49)) m7 c7 w6.heap.size (some ⟨w7.heap.size, 0, none⟩) 2 0 (own_below H7.out.1 hb8) hl8).mono ?_
  rintro e w8 ⟨rfl, hb9⟩
  have H8 : Hid (Below w.heap.size w w8) := by
    have g := H7.out.2.trans ((hb8.trans (hb9.mono hb8.size)).mono H7.out.2.size)
    have g2 := H6.out.trans (g.mono H6.out.size)
    have g3 := H4.out.2.trans (g2.mono H4.out.2.size)
    exact H2.out.2.trans (g3.mono H2.out.2.size)
  clear hb8 hl8 hb9
  go_wp2
  go_ret
  exact ⟨rfl, H8.out⟩
end Go.Proofs.Ytlehlghagddogaa.Cb

namespace Go.Proofs.Ytlehlghagddogaa.Cb
open Hi

theorem relax_le {vs : List (Option Int)} {x y : Nat} {d k : Int} (h : vs[y]? = some (some k)) : ∃ k', (relax vs x d)[y]? = some (some k') ∧ k' ≤ k := by
  by_cases e : y = x
  · subst e
    have hlt := (List.getElem?_eq_some_iff.1 h).1
    unfold relax
    rw [h]
    simp only
    split
    · rename_i g
      exact ⟨d, by simp [hlt], by omega⟩
    · exact ⟨k, h, Int.le_refl _⟩
  · rw [relax_other e]
    exact ⟨k, h, Int.le_refl _⟩
theorem relax_to {vs : List (Option Int)} {x : Nat} {d : Int} (h : x < vs.length) : ∃ k, (relax vs x d)[x]? = some (some k) ∧ k ≤ d := by
  unfold relax
  split
  · rename_i k hk
    split
    · exact ⟨d, by simp [h], Int.le_refl _⟩
    · exact ⟨k, hk, by omega⟩
  · exact ⟨d, by simp [h], Int.le_refl _⟩
theorem relax_from {vs : List (Option Int)} {x y : Nat} {d k : Int} (h : (relax vs x d)[y]? = some (some k)) : vs[y]? = some (some k) ∨ (y = x ∧ k = d) := by
  by_cases e : y = x
  · subst e
    have hlt : y < vs.length := by have := (List.getElem?_eq_some_iff.1 h).1; rwa [relax_len] at this
    obtain ⟨k2, h2, h3⟩ := relax_at (d := d) hlt
    rw [h2] at h
    obtain rfl : k2 = k := by simpa using h
    rcases h3 with h3 | h3
    · exact Or.inr ⟨rfl, h3⟩
    · exact Or.inl h3
  · rw [relax_other e] at h
    exact Or.inl h
theorem relaxs_le {d : Int} : ∀ (row : List Lk) (vs : List (Option Int)) {y : Nat} {k : Int}, vs[y]? = some (some k) → ∃ k', (relaxs d row vs)[y]? = some (some k') ∧ k' ≤ k
  | [], vs, y, k, h => ⟨k, h, Int.le_refl _⟩
  | l :: t, vs, y, k, h => by
    obtain ⟨k1, h1, g1⟩ := relax_le (x := l.hd) (d := d + l.wt) h
    obtain ⟨k2, h2, g2⟩ := relaxs_le (d := d) t (relax vs l.hd (d + l.wt)) h1
    exact ⟨k2, h2, by omega⟩
theorem relaxs_to {d : Int} : ∀ (row : List Lk) (vs : List (Option Int)) {l : Lk}, l ∈ row → l.hd < vs.length → ∃ k, (relaxs d row vs)[l.hd]? = some (some k) ∧ k ≤ d + l.wt
  | [], _, _, h, _ => by cases h
  | m :: t, vs, l, h, hl => by
    rcases List.mem_cons.1 h with rfl | h
    · obtain ⟨k, h1, g1⟩ := relax_to (d := d + l.wt) hl
      obtain ⟨k2, h2, g2⟩ := relaxs_le (d := d) t (relax vs l.hd (d + l.wt)) h1
      exact ⟨k2, h2, by omega⟩
    · exact relaxs_to t (relax vs m.hd (d + m.wt)) h (by rw [relax_len]; exact hl)
theorem relaxs_from {d : Int} : ∀ (row : List Lk) (vs : List (Option Int)) {y : Nat} {k : Int}, (relaxs d row vs)[y]? = some (some k) → vs[y]? = some (some k) ∨ ∃ l ∈ row, l.hd = y ∧ k = d + l.wt
  | [], _, _, _, h => Or.inl h
  | m :: t, vs, y, k, h => by
    rcases relaxs_from t (relax vs m.hd (d + m.wt)) h with h1 | ⟨l, h1, h2⟩
    · rcases relax_from h1 with h2 | ⟨rfl, rfl⟩
      · exact Or.inl h2
      · exact Or.inr ⟨m, List.mem_cons_self, rfl, rfl⟩
    · exact Or.inr ⟨l, List.mem_cons_of_mem _ h1, h2⟩
theorem relaxs_other {d : Int} : ∀ (row : List Lk) (vs : List (Option Int)) {y : Nat}, (∀ l ∈ row, l.hd ≠ y) → (relaxs d row vs)[y]? = vs[y]?
  | [], _, _, _ => rfl
  | m :: t, vs, y, h => by
    show (relaxs d t (relax vs m.hd (d + m.wt)))[y]? = _
    rw [relaxs_other t _ (fun l hl => h l (List.mem_cons_of_mem _ hl)), relax_other (fun e => h m List.mem_cons_self e.symm)]

/-- what holds when the ranks below r are through. -/
structure Way (row : Nat → List Lk) (n s r : Nat) (vs : List (Option Int)) : Prop where
  len : vs.length = n
  clo : ∀ x, x < r → ∀ d, vs[x]? = some (some d) → ∀ l ∈ row x, ∃ k, vs[l.hd]? = some (some k) ∧ k ≤ d + l.wt
  wit : ∀ x d, vs[x]? = some (some d) → (x = s ∧ d = 0) ∨ ∃ y e, y < r ∧ vs[y]? = some (some e) ∧ ∃ l ∈ row y, l.hd = x ∧ d = e + l.wt
/-- those that have a length, in order. -/
def pickO (vs : List (Option Int)) (x : Nat) : Option (Nat × Int) := match vs[x]? with
  | some (some d) => some (x, d)
  | _ => none
theorem pickO_some {vs : List (Option Int)} {x : Nat} {d : Int} (h : vs[x]? = some (some d)) : pickO vs x = some (x, d) := by unfold pickO; rw [h]
theorem pickO_none {vs : List (Option Int)} {x : Nat} (h : ∀ d, vs[x]? ≠ some (some d)) : pickO vs x = none := by
  unfold pickO
  split
  · rename_i d hd
    exact absurd hd (h d)
  · rfl
theorem pickO_iff {vs : List (Option Int)} {x : Nat} {p : Nat × Int} (h : pickO vs x = some p) : p.1 = x ∧ vs[x]? = some (some p.2) := by
  unfold pickO at h
  split at h
  · rename_i d hd
    obtain rfl : (x, d) = p := Option.some.inj h
    exact ⟨rfl, hd⟩
  · cases h
def outs (vs : List (Option Int)) (r : Nat) : List (Nat × Int) := (List.range r).filterMap (pickO vs)
theorem fm_congr {α β : Type} {f g : α → Option β} : ∀ (l : List α), (∀ a ∈ l, f a = g a) → l.filterMap f = l.filterMap g
  | [], _ => rfl
  | a :: l, h => by
    rw [List.filterMap_cons, List.filterMap_cons, h a List.mem_cons_self, fm_congr l (fun b hb => h b (List.mem_cons_of_mem _ hb))]
theorem outs_congr {vs vs' : List (Option Int)} {r : Nat} (h : ∀ x, x < r → vs'[x]? = vs[x]?) : outs vs' r = outs vs r := by
  unfold outs
  refine fm_congr _ fun x hx => ?_
  unfold pickO
  rw [h x (List.mem_range.1 hx)]
theorem outs_succ (vs : List (Option Int)) (r : Nat) : outs vs (r + 1) = outs vs r ++ [r].filterMap (pickO vs) := by unfold outs; rw [List.range_succ, List.filterMap_append]
theorem way_run {row : Nat → List Lk} {n s : Nat} (hrow : ∀ r, r < n → ∀ l ∈ row r, r < l.hd ∧ l.hd < n) : ∀ (m r : Nat) (vs : List (Option Int)) (out : List (Nat × Int)), r + m = n → Way row n s r vs → out = outs vs r → Way row n s n (run row m r vs out).1 ∧ (run row m r vs out).2 = outs (run row m r vs out).1 n ∧ ∀ x, x < r → (run row m r vs out).1[x]? = vs[x]?
  | 0, r, vs, out, hm, hw, ho => by
    obtain rfl : r = n := by omega
    exact ⟨hw, ho, fun x _ => rfl⟩
  | m + 1, r, vs, out, hm, hw, ho => by
    have hr : r < n := by omega
    rw [run]
    split
    · rename_i d hd
      have hoth : ∀ x, x ≤ r → (relaxs d (row r) vs)[x]? = vs[x]? := fun x hx => relaxs_other _ _ (fun l hl => by have := (hrow r hr l hl).1; omega)
      have hw2 : Way row n s (r + 1) (relaxs d (row r) vs) := by
        refine ⟨by rw [relaxs_len]; exact hw.len, fun x hx e he l hl => ?_, fun x e he => ?_⟩
        · rw [hoth x (by omega)] at he
          rcases Nat.lt_or_eq_of_le (Nat.le_of_lt_succ hx) with h1 | rfl
          · obtain ⟨k, h2, h3⟩ := hw.clo x h1 e he l hl
            obtain ⟨k', h4, h5⟩ := relaxs_le (d := d) (row r) vs h2
            exact ⟨k', h4, by omega⟩
          · rw [hd] at he
            obtain rfl : d = e := by simpa using he
            exact relaxs_to (row x) vs hl (by rw [hw.len]; exact (hrow x hr l hl).2)
        · rcases relaxs_from (row r) vs he with h1 | ⟨l, h1, h2, h3⟩
          · rcases hw.wit x e h1 with h2 | ⟨y, e', h2, h3, h4⟩
            · exact Or.inl h2
            · exact Or.inr ⟨y, e', by omega, by rw [hoth y (by omega)]; exact h3, h4⟩
          · exact Or.inr ⟨r, d, by omega, by rw [hoth r (Nat.le_refl _)]; exact hd, l, h1, h2, h3⟩
      have ho2 : out ++ [(r, d)] = outs (relaxs d (row r) vs) (r + 1) := by
        rw [outs_succ, outs_congr (vs := vs) (fun x hx => hoth x (by omega)), ← ho, List.filterMap_cons, pickO_some ((hoth r (Nat.le_refl _)).trans hd)]
        rfl
      obtain ⟨g1, g2, g3⟩ := way_run hrow m (r + 1) _ _ (by omega) hw2 ho2
      exact ⟨g1, g2, fun x hx => (g3 x (by omega)).trans (hoth x (by omega))⟩
    · rename_i hd
      have hw2 : Way row n s (r + 1) vs := by
        refine ⟨hw.len, fun x hx e he l hl => ?_, fun x e he => ?_⟩
        · rcases Nat.lt_or_eq_of_le (Nat.le_of_lt_succ hx) with h1 | rfl
          · exact hw.clo x h1 e he l hl
          · exact absurd he (hd e)
        · rcases hw.wit x e he with h2 | ⟨y, e', h2, h3, h4⟩
          · exact Or.inl h2
          · exact Or.inr ⟨y, e', by omega, h3, h4⟩
      have ho2 : out = outs vs (r + 1) := by
        rw [outs_succ, ← ho, List.filterMap_cons, pickO_none hd]
        simp
      obtain ⟨g1, g2, g3⟩ := way_run hrow m (r + 1) _ _ (by omega) hw2 ho2
      exact ⟨g1, g2, fun x hx => g3 x (by omega)⟩
theorem way_start (row : Nat → List Lk) {n s : Nat} (hs : s < n) : Way row n s 0 (start n s) := by
  refine ⟨by simp [start], fun x hx => absurd hx (Nat.not_lt_zero _), fun x d h => Or.inl ?_⟩
  unfold start at h
  by_cases e : x = s
  · subst e
    simp [hs] at h
    exact ⟨rfl, h.symm⟩
  · rw [List.getElem?_set_ne (fun g => e g.symm)] at h
    rw [List.getElem?_replicate] at h
    split at h <;> simp at h
/-- the lengths at the end. -/
def lens (row : Nat → List Lk) (n s : Nat) : List (Option Int) := (run row n 0 (start n s) []).1
theorem lens_way {row : Nat → List Lk} {n s : Nat} (hs : s < n) (hrow : ∀ r, r < n → ∀ l ∈ row r, r < l.hd ∧ l.hd < n) : Way row n s n (lens row n s) ∧ (run row n 0 (start n s) []).2 = outs (lens row n s) n := by
  obtain ⟨h1, h2, _⟩ := way_run hrow n 0 (start n s) [] (by omega) (way_start row hs) (by simp [outs])
  exact ⟨h1, h2⟩
theorem climbed_outs {row back : Nat → List Lk} {n s : Nat} (hs : s < n) (hrow : ∀ r, r < n → ∀ l ∈ row r, r < l.hd ∧ l.hd < n) : (climbed n s row back).map (fun x => (x.1, x.2.1)) = outs (lens row n s) n := by
  unfold climbed
  simp only [List.map_map]
  rw [← (lens_way hs hrow).2]
  simp [Function.comp_def]
theorem outs_mem {vs : List (Option Int)} {r x : Nat} {d : Int} : (x, d) ∈ outs vs r ↔ x < r ∧ vs[x]? = some (some d) := by
  unfold outs
  rw [List.mem_filterMap]
  constructor
  · rintro ⟨y, hy, h⟩
    obtain ⟨h1, h2⟩ := pickO_iff h
    simp only at h1 h2
    subst h1
    exact ⟨List.mem_range.1 hy, h2⟩
  · rintro ⟨h1, h2⟩
    exact ⟨x, List.mem_range.2 h1, pickO_some h2⟩
theorem outs_rise (vs : List (Option Int)) : ∀ (r : Nat), (outs vs r).Pairwise fun a b => a.1 < b.1
  | 0 => by simp [outs]
  | r + 1 => by
    rw [outs_succ, List.pairwise_append]
    refine ⟨outs_rise vs r, ?_, fun a ha b hb => ?_⟩
    · rw [List.filterMap_cons]
      split <;> simp
    · have h1 := (outs_mem (x := a.1) (d := a.2)).1 ha
      rw [List.mem_filterMap] at hb
      obtain ⟨y, hy, hb⟩ := hb
      simp only [List.mem_singleton] at hy
      subst hy
      obtain ⟨h2, _⟩ := pickO_iff hb
      rw [h2]
      exact h1.1
end Go.Proofs.Ytlehlghagddogaa.Cb

namespace Go.Proofs.Ytlehlghagddogaa.Cb
open Go.RowKit Go.Extern Hi

def far : Int := 18446744073709551615
def upd {α : Type} (f : Nat → α) (x : Nat) (v : α) (j : Nat) : α := if j = x then v else f j
/-- a row whose places hold what g makes of f. -/
structure RAt {α : Type} (g : α → Value) (w : World) (D n : Nat) (f : Nat → α) : Prop where
  lt : D < w.heap.size
  cell : ∀ j, j < n → w.cell? ⟨D, j, none⟩ = some (g (f j))
  free : ∀ j, w.frozen? ⟨D, j, none⟩ = false
theorem RAt.keep {α : Type} {g : α → Value} {w w' : World} {D n : Nat} {f : Nat → α} (h : RAt g w D n f) (hb : Below w.heap.size w w') : RAt g w' D n f :=
  ⟨Nat.lt_of_lt_of_le h.lt hb.size, fun j hj => (hb.cell (p := ⟨D, j, none⟩) h.lt).trans (h.cell j hj), fun j => by
    have e := hb.block D h.lt
    have q := h.free j
    simp only [World.frozen?, e] at q ⊢
    exact q⟩
theorem RAt.far {α : Type} {g : α → Value} {w : World} {D n : Nat} {f : Nat → α} (h : RAt g w D n f) {b o : Nat} (hne : D ≠ b) (v : Value) : RAt g (w.setCell ⟨b, o, none⟩ v) D n f :=
  ⟨by simpa [World.setCell] using h.lt, fun j hj => by rw [World.cell?_setCell_other _ _ _ _ (by intro q; simp only [Addr.mk.injEq] at q; omega)]; exact h.cell j hj, fun j => by rw [World.frozen?_setCell]; exact h.free j⟩
theorem RAt.eq {α : Type} {g : α → Value} {w : World} {D n : Nat} {f f' : Nat → α} (h : RAt g w D n f) (he : ∀ j, j < n → f j = f' j) : RAt g w D n f' :=
  ⟨h.lt, fun j hj => by rw [← he j hj]; exact h.cell j hj, h.free⟩
theorem RAt.set {α : Type} {g : α → Value} {w : World} {D n : Nat} {f : Nat → α} (h : RAt g w D n f) {x : Nat} (v : α) (hx : x < n) : RAt g (w.setCell ⟨D, x, none⟩ (g v)) D n (upd f x v) := by
  refine ⟨by simpa [World.setCell] using h.lt, fun j hj => ?_, fun j => by rw [World.frozen?_setCell]; exact h.free j⟩
  unfold upd
  by_cases e : j = x
  · subst e
    rw [World.cell?_setCell_same _ _ _ (h.cell j hj), if_pos rfl]
  · rw [World.cell?_setCell_other _ _ _ _ (by intro h; simp only [Addr.mk.injEq] at h; omega), h.cell j hj, if_neg e]
def u64v (d : Int) : Value := .int .u64 d
def boolv (b : Bool) : Value := .bool b
theorem made_at {α : Type} (g : α → Value) (x : α) (T : TypeId) (w : World) (n : Nat) : RAt g (w.alloc (.cells (madeCells #[g x] n) T)) w.heap.size n (fun _ => x) := by
  have hh := heap_newW w (.cells (madeCells #[g x] n) T)
  have hlt := lt_of_get hh
  generalize w.alloc (.cells (madeCells #[g x] n) T) = W at hh hlt
  refine ⟨hlt, fun j hj => ?_, fun j => ?_⟩
  · have e : (madeCells #[g x] n)[j]? = some (g x) := by simp [madeCells, hj, Nat.mod_one]
    simp [World.cell?, hh, e]
  · simp only [World.frozen?, hh]
    simp
/-- the length at a rank, or far. -/
def dv (V : List (Option Int)) (j : Nat) : Int := match V[j]? with
  | some (some d) => d
  | _ => far
theorem dv_some {V : List (Option Int)} {j : Nat} {d : Int} (h : V[j]? = some (some d)) : dv V j = d := by unfold dv; rw [h]
theorem dv_none {V : List (Option Int)} {j : Nat} (h : ∀ d, V[j]? ≠ some (some d)) : dv V j = far := by
  unfold dv
  split
  · rename_i d hd
    exact absurd hd (h d)
  · rfl
/-- what the first ones of a list say. -/
def lk (L : List (Nat × Int)) (j : Nat) : Int := match L.find? (fun p => p.1 == j) with
  | some p => p.2
  | none => far
theorem lk_snoc {L : List (Nat × Int)} {r : Nat} {d : Int} (h : ∀ p ∈ L, p.1 ≠ r) (j : Nat) : lk (L ++ [(r, d)]) j = upd (lk L) r d j := by
  unfold lk upd
  rw [List.find?_append]
  by_cases e : j = r
  · subst e
    have e1 : L.find? (fun p => p.1 == j) = none := by
      rw [List.find?_eq_none]
      intro p hp
      simpa using h p hp
    rw [e1, if_pos rfl]
    simp
  · rw [if_neg e]
    have e1 : [(r, d)].find? (fun p => p.1 == j) = none := by
      rw [List.find?_eq_none]
      intro p hp
      simp only [List.mem_singleton] at hp
      subst hp
      simp
      omega
    rw [e1, Option.or_none]
theorem lk_outs {V : List (Option Int)} {n j : Nat} (hj : j < n) : lk (outs V n) j = dv V j := by
  unfold lk
  split
  · rename_i p hp
    have h1 := List.find?_some hp
    have h2 := List.mem_of_find?_eq_some hp
    have h3 := (outs_mem (x := p.1) (d := p.2)).1 h2
    simp only [beq_iff_eq] at h1
    rw [h1] at h3
    rw [dv_some h3.2]
  · rename_i hp
    rw [List.find?_eq_none] at hp
    rw [dv_none (fun d hd => by have := hp (j, d) (outs_mem.2 ⟨hj, hd⟩); simp at this)]
/-- does one of the links at y reach j just as far? -/
def hit (V : List (Option Int)) (ls : List Lk) (y j : Nat) : Bool := match V[y]? with
  | some (some d) => ls.any fun l => l.hd == j && dv V j == d + l.wt
  | _ => false
theorem hit_some {V : List (Option Int)} {y : Nat} {d : Int} (h : V[y]? = some (some d)) (ls : List Lk) (j : Nat) : hit V ls y j = ls.any fun l => l.hd == j && dv V j == d + l.wt := by unfold hit; rw [h]
theorem hit_none {V : List (Option Int)} {y : Nat} (h : ∀ d, V[y]? ≠ some (some d)) (ls : List Lk) (j : Nat) : hit V ls y j = false := by
  unfold hit
  split
  · rename_i d hd
    exact absurd hd (h d)
  · rfl
/-- what is reached by links from the ranks below r, and by the first t links at r. -/
def rchB (V : List (Option Int)) (row : Nat → List Lk) (s r t j : Nat) : Bool := decide (j = s) || ((List.range r).any fun y => hit V (row y) y j) || hit V ((row r).take t) r j
theorem rch_next (V : List (Option Int)) (row : Nat → List Lk) (s r j : Nat) : rchB V row s r (row r).length j = rchB V row s (r + 1) 0 j := by
  unfold rchB
  rw [List.take_length, List.range_succ, List.any_append]
  have e : hit V ((row (r + 1)).take 0) (r + 1) j = false := by unfold hit; split <;> simp
  rw [e]
  simp [Bool.or_assoc]
theorem rch_step {V : List (Option Int)} {row : Nat → List Lk} {s r t : Nat} {l : Lk} {d : Int} (hl : (row r)[t]? = some l) (hd : V[r]? = some (some d)) (j : Nat) : rchB V row s r (t + 1) j = upd (rchB V row s r t) l.hd (rchB V row s r t l.hd || (dv V l.hd == d + l.wt)) j := by
  unfold upd rchB
  rw [hit_some hd, hit_some hd, hit_some hd, List.take_add_one, hl, List.any_append]
  by_cases e : j = l.hd
  · subst e
    rw [if_pos rfl]
    simp [Bool.or_assoc]
  · rw [if_neg e]
    have e2 : (l.hd == j) = false := beq_eq_false_iff_ne.2 (fun q => e q.symm)
    simp [e2]
theorem rch_skip {V : List (Option Int)} {row : Nat → List Lk} {s r t : Nat} (hd : ∀ d, V[r]? ≠ some (some d)) (j : Nat) : rchB V row s r (t + 1) j = rchB V row s r t j := by
  unfold rchB
  rw [hit_none hd, hit_none hd]
theorem rch_start (V : List (Option Int)) (row : Nat → List Lk) (s j : Nat) : rchB V row s 0 0 j = upd (fun _ => false) s true j := by
  have e0 : hit V ((row 0).take 0) 0 j = false := by unfold hit; split <;> simp
  unfold rchB upd
  rw [e0]
  by_cases e : j = s
  · simp [e]
  · rw [if_neg e]
    simp [e]
/-- at the end: just what has a length. -/
theorem rch_end {V : List (Option Int)} {row : Nat → List Lk} {n s j : Nat} (hw : Way row n s n V) (hs : V[s]? = some (some 0)) (hV : ∀ (x : Nat) (d : Int), V[x]? = some (some d) → 0 ≤ d ∧ d < 9223372036854775808) (hwt : ∀ y, y < n → ∀ l ∈ row y, l.wt ≤ 140737488355328) : rchB V row s n 0 j = !(dv V j == far) := by
  have e : hit V ((row n).take 0) n j = false := by unfold hit; split <;> simp
  unfold rchB
  rw [e, Bool.or_false]
  by_cases hjv : ∃ d, V[j]? = some (some d)
  · obtain ⟨d, hd⟩ := hjv
    have hdf : d ≠ far := by have := (hV j d hd).2; unfold far; omega
    rw [dv_some hd, beq_eq_false_iff_ne.2 hdf]
    show _ = true
    rcases hw.wit j d hd with ⟨h1, _⟩ | ⟨y, e', hy, he, l, hl, h1, h2⟩
    · simp [h1]
    · rw [Bool.or_eq_true]
      right
      rw [List.any_eq_true]
      refine ⟨y, List.mem_range.2 hy, ?_⟩
      rw [hit_some he, List.any_eq_true]
      exact ⟨l, hl, by rw [dv_some hd]; simp [h1, h2]⟩
  · have hn : ∀ d, V[j]? ≠ some (some d) := fun d hd => hjv ⟨d, hd⟩
    rw [dv_none hn]
    show _ = !(far == far)
    simp only [BEq.rfl, Bool.not_true, Bool.or_eq_false_iff]
    refine ⟨decide_eq_false (fun q => hn 0 (by rw [q]; exact hs)), ?_⟩
    rw [List.any_eq_false]
    intro y hy q
    have hy' := List.mem_range.1 hy
    by_cases hyv : ∃ d, V[y]? = some (some d)
    · obtain ⟨d, hd⟩ := hyv
      rw [hit_some hd, List.any_eq_true] at q
      obtain ⟨l, hl, q⟩ := q
      simp only [Bool.and_eq_true, beq_iff_eq] at q
      rw [dv_none hn] at q
      have h1 := (hV y d hd).2
      have h2 := hwt y hy' l hl
      have h3 := q.2
      unfold far at h3
      omega
    · rw [hit_none (fun d hd => hyv ⟨d, hd⟩)] at q
      cases q
end Go.Proofs.Ytlehlghagddogaa.Cb

namespace Go.Proofs.Ytlehlghagddogaa.Qy
open Hi Cb

abbrev Sn := Nat × Int × Bool
/-- the better meeting. -/
def bst (b : Option (Nat × Int)) (x y : Sn) : Option (Nat × Int) := if x.1 = y.1 then (match b with
  | none => some (x.1, x.2.1 + y.2.1)
  | some (r, d) => if x.2.1 + y.2.1 < d then some (x.1, x.2.1 + y.2.1) else some (r, d)) else b
def nearG : Nat → Option (Nat × Int) → List Sn → List Sn → Option (Nat × Int)
  | f + 1, b, x :: p, y :: q => nearG f (bst b x y) (if x.1 ≤ y.1 then p else x :: p) (if y.1 ≤ x.1 then q else y :: q)
  | _, b, _, _ => b
def near (p q : List Sn) : Option (Nat × Int) := nearG (p.length + q.length) none p q
theorem bst_symm (b : Option (Nat × Int)) (x y : Sn) : bst b x y = bst b y x := by
  unfold bst
  by_cases h : x.1 = y.1
  · rw [if_pos h, if_pos h.symm, Int.add_comm, h]
  · rw [if_neg h, if_neg (fun e => h e.symm)]
theorem nearG_symm : ∀ (f : Nat) (b : Option (Nat × Int)) (p q : List Sn), nearG f b p q = nearG f b q p
  | 0, b, p, q => by cases p <;> cases q <;> rfl
  | f + 1, b, [], q => by cases q <;> rfl
  | f + 1, b, x :: p, [] => rfl
  | f + 1, b, x :: p, y :: q => by
    rw [nearG, nearG, bst_symm, nearG_symm f]
theorem near_symm (p q : List Sn) : near p q = near q p := by unfold near; rw [nearG_symm, Nat.add_comm]
theorem nearG_nil (f : Nat) (b : Option (Nat × Int)) (p q : List Sn) (h : p = [] ∨ q = []) : nearG f b p q = b := by
  rcases h with rfl | rfl
  · cases f <;> rfl
  · cases f <;> cases p <;> rfl
/-- a meeting at 0 is not bettered. -/
theorem nearG_zero (r : Nat) : ∀ (f : Nat) (p q : List Sn), (∀ x ∈ p, 0 ≤ x.2.1) → (∀ x ∈ q, 0 ≤ x.2.1) → nearG f (some (r, 0)) p q = some (r, 0)
  | 0, p, q, _, _ => by cases p <;> cases q <;> rfl
  | f + 1, [], q, _, _ => by cases q <;> rfl
  | f + 1, x :: p, [], _, _ => rfl
  | f + 1, x :: p, y :: q, hp, hq => by
    have h1 := hp x (List.mem_cons_self ..)
    have h2 := hq y (List.mem_cons_self ..)
    have e : bst (some (r, 0)) x y = some (r, 0) := by
      unfold bst
      split
      · simp only
        rw [if_neg (by omega)]
      · rfl
    rw [nearG, e]
    refine nearG_zero r f _ _ (fun z hz => ?_) (fun z hz => ?_)
    · split at hz
      · exact hp z (List.mem_cons_of_mem _ hz)
      · exact hp z hz
    · split at hz
      · exact hq z (List.mem_cons_of_mem _ hz)
      · exact hq z hz
/-- lengths are no less than 0. -/
theorem low_relaxs {d : Int} (hd : 0 ≤ d) : ∀ (row : List Lk) (vs : List (Option Int)), (∀ (x : Nat) (k : Int), vs[x]? = some (some k) → 0 ≤ k) → ∀ (x : Nat) (k : Int), (relaxs d row vs)[x]? = some (some k) → 0 ≤ k
  | [], vs, h, x, k, hk => h x k hk
  | l :: r, vs, h, x, k, hk => by
    refine low_relaxs hd r (relax vs l.hd (d + l.wt)) (fun y j hj => ?_) x k hk
    by_cases e : y = l.hd
    · subst e
      have hlt : l.hd < vs.length := by have := (List.getElem?_eq_some_iff.1 hj).1; rwa [relax_len] at this
      obtain ⟨k2, h2, h3⟩ := relax_at (d := d + l.wt) hlt
      rw [h2] at hj
      obtain rfl : k2 = j := by simpa using hj
      rcases h3 with rfl | h3
      · omega
      · exact h _ k2 h3
    · rw [relax_other e] at hj
      exact h y j hj
theorem run_pos (row : Nat → List Lk) : ∀ (m r : Nat) (vs : List (Option Int)) (out : List (Nat × Int)), (∀ (x : Nat) (k : Int), vs[x]? = some (some k) → 0 ≤ k) → (∀ x ∈ out, 0 ≤ x.2) → ∀ x ∈ (run row m r vs out).2, 0 ≤ x.2
  | 0, r, vs, out, _, ho, x, hx => ho x hx
  | m + 1, r, vs, out, hv, ho, x, hx => by
    rw [run] at hx
    split at hx
    · rename_i d hd
      refine run_pos row m (r + 1) _ _ (low_relaxs (hv _ _ hd) _ _ hv) (fun y hy => ?_) x hx
      rcases List.mem_append.1 hy with h | h
      · exact ho y h
      · simp at h
        subst h
        exact hv _ _ hd
    · exact run_pos row m (r + 1) _ _ hv ho x hx
theorem run_prefix (row : Nat → List Lk) : ∀ (m r : Nat) (vs : List (Option Int)) (out : List (Nat × Int)), ∃ t, (run row m r vs out).2 = out ++ t
  | 0, r, vs, out => ⟨[], by simp [run]⟩
  | m + 1, r, vs, out => by
    rw [run]
    split
    · rename_i d hd
      obtain ⟨t, ht⟩ := run_prefix row m (r + 1) (relaxs d (row r) vs) (out ++ [(r, d)])
      exact ⟨(r, d) :: t, by rw [ht, List.append_assoc]; rfl⟩
    · exact run_prefix row m (r + 1) vs out
theorem climbed_head {n s : Nat} (hs : s < n) (a b : Nat → List Lk) : ∃ bb t, climbed n s a b = (s, 0, bb) :: t ∧ ∀ x ∈ climbed n s a b, 0 ≤ x.2.1 := by
  have h0 : (Cb.start n s)[s]? = some (some 0) := by unfold Cb.start; simp [hs]
  have hn : ∀ y, 0 ≤ y → y < s → (Cb.start n s)[y]? = some none ∨ (Cb.start n s)[y]? = none := fun y _ hy => by
    unfold Cb.start
    rw [List.getElem?_set_ne (by omega), List.getElem?_replicate]
    split
    · exact Or.inl rfl
    · exact Or.inr rfl
  have e := run_take a (vs := Cb.start n s) (out := []) (n := n) (r := 0) (x := s) (d := 0) (Nat.zero_le _) hs h0 hn
  rw [Nat.sub_zero] at e
  obtain ⟨t, ht⟩ := run_prefix a (n - (s + 1)) (s + 1) (relaxs 0 (a s) (Cb.start n s)) ([] ++ [(s, 0)])
  have e2 : (run a n 0 (Cb.start n s) []).2 = (s, 0) :: t := by rw [e, ht]; rfl
  refine ⟨stalled (run a n 0 (Cb.start n s) []).1 (b s) 0, t.map fun x => (x.1, x.2, stalled (run a n 0 (Cb.start n s) []).1 (b x.1) x.2), ?_, fun x hx => ?_⟩
  · unfold climbed
    simp only
    rw [e2]
    rfl
  · unfold climbed at hx
    simp only at hx
    obtain ⟨y, hy, rfl⟩ := List.mem_map.1 hx
    exact run_pos a n 0 (Cb.start n s) [] (fun x k hk => (low_start n s x k hk).1) (fun x hx => by simp at hx) y hy
/-- from a rank to itself. -/
theorem near_self {h : Hr} {r : Nat} (hr : r < h.node.length) : near (upL h r) (dnL h r) = some (r, 0) := by
  obtain ⟨b1, t1, e1, p1⟩ := climbed_head hr (rowL h.upF h.up) (rowL h.dnF h.dn)
  obtain ⟨b2, t2, e2, p2⟩ := climbed_head hr (rowL h.dnF h.dn) (rowL h.upF h.up)
  unfold upL dnL near
  rw [e1] at p1
  rw [e2] at p2
  rw [e1, e2]
  have e3 : bst none (r, 0, b1) (r, 0, b2) = some (r, 0) := by simp [bst]
  rw [List.length_cons, Nat.succ_add, nearG, e3]
  exact nearG_zero r _ _ _ (fun x hx => by
    simp at hx
    exact p1 x (List.mem_cons_of_mem _ hx)) (fun x hx => by
    simp at hx
    exact p2 x (List.mem_cons_of_mem _ hx))
theorem nth_list : ∀ (N : List Nat), N = (List.range N.length).map (nth N) := fun N => by
  apply List.ext_getElem?
  intro i
  rw [List.getElem?_map]
  by_cases hi : i < N.length
  · rw [List.getElem?_range hi, nth_get hi]; rfl
  · rw [List.getElem?_eq_none (by omega), List.getElem?_eq_none (by simp; omega)]; rfl
/-- every node has a rank. -/
theorem node_has {N : List Nat} (hc : cn N = (0, [])) {v : Nat} (hv : v < N.length) : ∃ r, r < N.length ∧ nth N r = v := by
  by_cases hex : ∃ r, r < N.length ∧ nth N r = v
  · exact hex
  · exfalso
    have hlt : ∀ r, r < N.length → nth N r < N.length := fun r hr => (cn_ok hc hr).1
    have hnd : (N ++ [v]).Nodup := by
      rw [List.nodup_append]
      refine ⟨?_, by simp, ?_⟩
      · unfold List.Nodup
        rw [List.pairwise_iff_getElem]
        intro i j hi hj hij e
        have e1 : N[i] = nth N i := by have := nth_get hi; rw [List.getElem?_eq_getElem hi] at this; exact Option.some.inj this
        have e2 : N[j] = nth N j := by have := nth_get hj; rw [List.getElem?_eq_getElem hj] at this; exact Option.some.inj this
        have e' : nth N i = nth N j := by rw [← e1, ← e2]; exact e
        have h1 := rkM_undo hc (k := i) (by omega)
        have h2 := rkM_undo hc hj
        rw [e', h2] at h1
        have := Option.some.inj h1
        omega
      · intro a ha b hb
        simp at hb
        subst hb
        obtain ⟨i, hi⟩ := List.mem_iff_getElem?.1 ha
        have hil := (List.getElem?_eq_some_iff.1 hi).1
        rintro rfl
        exact hex ⟨i, hil, nth_of hi⟩
    have := Hp.pigeon N.length (N ++ [v]) hnd (fun x hx => by
      rcases List.mem_append.1 hx with h | h
      · obtain ⟨i, hi⟩ := List.mem_iff_getElem?.1 h
        have hil := (List.getElem?_eq_some_iff.1 hi).1
        have := hlt i hil
        rw [nth_of hi] at this
        exact this
      · simp at h; omega)
    simp at this
    omega
/-- the rank of a node. -/
def rankOf (h : Hr) (v : Nat) : Nat := ((rkM h.node)[v]?).getD 0
theorem rank_node {h : Hr} (hc : chk h = (0, [])) {v : Nat} (hv : v < h.node.length) : rankOf h v < h.node.length ∧ (rkM h.node)[v]? = some (rankOf h v) := by
  obtain ⟨k1, k2, k3, k4, k5, k6, k7, k8⟩ := chk_ok hc
  obtain ⟨r, hr, e⟩ := node_has k7 hv
  have := rkM_undo k7 hr
  rw [e] at this
  unfold rankOf
  rw [this]
  exact ⟨hr, rfl⟩
theorem rank_of {h : Hr} (hc : chk h = (0, [])) {r : Nat} (hr : r < h.node.length) : rankOf h (nth h.node r) = r := by
  obtain ⟨k1, k2, k3, k4, k5, k6, k7, k8⟩ := chk_ok hc
  unfold rankOf
  rw [rkM_undo k7 hr]
  rfl
/-- what meet answers of two nodes of a hierarchy in form. -/
def meetL (h : Hr) (s t : Nat) : Option (Nat × Int) := near (upL h (rankOf h s)) (dnL h (rankOf h t))
theorem meet_turn (h : Hr) (s t : Nat) : meetL (turnH h) t s = meetL h s t := by
  unfold meetL
  rw [up_turn, dn_turn, near_symm]
  rfl
theorem meet_self {h : Hr} (hc : chk h = (0, [])) {s : Nat} (hs : s < h.node.length) : meetL h s s = some (rankOf h s, 0) := near_self (rank_node hc hs).1
end Go.Proofs.Ytlehlghagddogaa.Qy

namespace Go.Proofs.Ytlehlghagddogaa.Qy
open Go.RowKit Go.Extern Go.Shelf Hi Cb

attribute [local go_sem] Oper.semAt_some

/-- what is seen, in memory. -/
def HasSn (w : World) (lv : Value) (X : List Sn) : Prop :=
  ∃ ao cap, lv = .slice ao X.length cap ∧ X.length ≤ cap ∧ ∀ (j : Nat) (x : Sn), X[j]? = some x → ∃ b off, ao = some ⟨b, off, none⟩ ∧ b < w.heap.size ∧ w.cell? ⟨b, off + j * 3, none⟩ = some (.int .i64 (x.1 : Int)) ∧ w.cell? ⟨b, off + j * 3 + 1, none⟩ = some (.int .u64 x.2.1) ∧ w.cell? ⟨b, off + j * 3 + 2, none⟩ = some (.bool x.2.2)
theorem HasSn.keep {w w' : World} {lv : Value} {X : List Sn} (h : HasSn w lv X) (hb : Below w.heap.size w w') : HasSn w' lv X := by
  obtain ⟨ao, cap, e, hcap, hc⟩ := h
  refine ⟨ao, cap, e, hcap, fun j a hj => ?_⟩
  obtain ⟨b, off, ea, hl, h0, h1, h2⟩ := hc j a hj
  exact ⟨b, off, ea, Nat.lt_of_lt_of_le hl hb.size, (hb.cell (p := ⟨b, _, none⟩) hl).trans h0, (hb.cell (p := ⟨b, _, none⟩) hl).trans h1, (hb.cell (p := ⟨b, _, none⟩) hl).trans h2⟩
theorem sn_of_own {w : World} {B : Nat} {mo : Option Addr} {mc : Nat} {X : List Sn} (h : w.ownsRow B 38 3 (.slice mo X.length mc) X.length (snv X)) : HasSn w (.slice mo X.length mc) X := by
  rcases h.2 with ⟨e, h0⟩ | ⟨g, cap, cur, e, _, hh, hcap, _⟩
  · injection e with e1 _ e3
    obtain rfl : X = [] := List.eq_nil_of_length_eq_zero h0
    exact ⟨mo, mc, rfl, Nat.zero_le _, fun j x hj => by simp at hj⟩
  · injection e with e1 _ e3
    subst e1 e3
    refine ⟨_, mc, rfl, hcap, fun j x hj => ⟨g, 0, rfl, some_lt hh, ?_⟩⟩
    have hjl := (List.getElem?_eq_some_iff.1 hj).1
    obtain ⟨s0, s1, s2⟩ := snv_get X j x hj
    rw [Nat.zero_add]
    exact ⟨(h.cellAt (j * 3) (by omega)).trans s0, (h.cellAt (j * 3 + 1) (by omega)).trans s1, (h.cellAt (j * 3 + 2) (by omega)).trans s2⟩
theorem sn_nil (w : World) (mo : Option Addr) (mc : Nat) : HasSn w (.slice mo 0 mc) [] := ⟨mo, mc, rfl, Nat.zero_le _, fun j x hj => by simp at hj⟩
theorem Try.elemSn : Try.prog.underlying 29 = some (.slice (Try.prog.elem 29)) := by kernel_rfl
theorem Try.sizeSn (w : World) : (sizeOf (Try.prog.elem 29)).run Try.prog w = .ok 3 w := by kernel_rfl
/-- all but the first. -/
theorem cut_sn (lo : Option Addr) (n cap : Nat) (hj : n + 1 ≤ cap) : ∃ so, (0 < n → ∀ b off, lo = some ⟨b, off, none⟩ → so = some ⟨b, off + 3, none⟩) ∧ ∀ w, (Instr.slice 29 (.slice lo (n + 1) cap) (some (.int .i64 1)) none none).run Try.prog w = .ok (.slice so n (cap - 1)) w := by
  refine ⟨if cap = 1 then lo else lo.map (·.add (1 * 3)), fun h b off e => ?_, fun w => ?_⟩
  · rw [if_neg (by omega), e]
    simp [Addr.add]
  · rw [run_slice_l (ht := Try.elemSn) (h0 := by omega) (h1 := by omega), Try.sizeSn]
    simp only [Result.andThen_ok, sliced]
    rfl
theorem sn_tail {w : World} {lo so : Option Addr} {cap : Nat} {x : Sn} {X : List Sn} (h : HasSn w (.slice lo (x :: X).length cap) (x :: X)) (hso : 0 < X.length → ∀ b off, lo = some ⟨b, off, none⟩ → so = some ⟨b, off + 3, none⟩) : HasSn w (.slice so X.length (cap - 1)) X := by
  obtain ⟨ao, cap', e, hcap, hc⟩ := h
  injection e with e1 e2 e3
  subst e1 e3
  refine ⟨so, cap - 1, rfl, by simp at hcap; omega, fun j y hj => ?_⟩
  have hjl := (List.getElem?_eq_some_iff.1 hj).1
  obtain ⟨b, off, ea, hl, h0, h1, h2⟩ := hc (j + 1) y (by simpa using hj)
  refine ⟨b, off + 3, hso (by omega) b off ea, hl, ?_, ?_, ?_⟩
  · rw [show off + 3 + j * 3 = off + (j + 1) * 3 by omega]; exact h0
  · rw [show off + 3 + j * 3 + 1 = off + (j + 1) * 3 + 1 by omega]; exact h1
  · rw [show off + 3 + j * 3 + 2 = off + (j + 1) * 3 + 2 by omega]; exact h2
theorem HasSn.cap {w : World} {ao : Option Addr} {n cap : Nat} {X : List Sn} (h : HasSn w (.slice ao n cap) X) : n ≤ cap := by
  obtain ⟨_, _, e, h, _⟩ := h
  injection e with _ e1 e2
  omega
theorem HasSn.at {w : World} {ao : Option Addr} {n cap : Nat} {X : List Sn} (h : HasSn w (.slice ao n cap) X) {j : Nat} {x : Sn} (hj : X[j]? = some x) :
    ∃ b off, ao = some ⟨b, off, none⟩ ∧ b < w.heap.size ∧ w.cell? ⟨b, off + j * 3, none⟩ = some (.int .i64 (x.1 : Int)) ∧ w.cell? ⟨b, off + j * 3 + 1, none⟩ = some (.int .u64 x.2.1) ∧ w.cell? ⟨b, off + j * 3 + 2, none⟩ = some (.bool x.2.2) := by
  obtain ⟨ao', cap', e, _, hc⟩ := h
  injection e with e1 e2 e3
  subst e1
  exact hc j x hj
/-- the best meeting, in cells. -/
def bestC : Option (Nat × Int) → Array Value
  | none => #[.int .i64 0, .int .u64 0]
  | some (r, d) => #[.int .i64 (r : Int), .int .u64 d]
def lenV : Value → Nat
  | .slice _ n _ => n
  | _ => 0
theorem ni_ran {b : Option (Nat × Int)} {x y : Sn} {p q : List Sn} {R : Option (Nat × Int)} (h : ∃ f, (x :: p).length + (y :: q).length ≤ f ∧ nearG f b (x :: p) (y :: q) = R) : ∃ f, (if x.1 ≤ y.1 then p else x :: p).length + (if y.1 ≤ x.1 then q else y :: q).length ≤ f ∧ nearG f (bst b x y) (if x.1 ≤ y.1 then p else x :: p) (if y.1 ≤ x.1 then q else y :: q) = R := by
  obtain ⟨f, hf, e⟩ := h
  obtain ⟨g, rfl⟩ : ∃ g, f = g + 1 := ⟨f - 1, by simp at hf; omega⟩
  refine ⟨g, ?_, by rw [nearG] at e; exact e⟩
  simp at hf
  rcases Nat.lt_trichotomy x.1 y.1 with h1 | h1 | h1
  · rw [if_pos (by omega), if_neg (by omega)]; simp; omega
  · rw [if_pos (by omega), if_pos (by omega)]; omega
  · rw [if_neg (by omega), if_pos (by omega)]; simp; omega
theorem set_two {W : World} {b : Nat} {p q : Value} {T : TypeId} (h : W.heap[b]? = some (.cells #[p, q] T)) (x y : Value) : ((W.setCell ⟨b, 0, none⟩ x).setCell ⟨b, 1, none⟩ y).heap[b]? = some (.cells #[x, y] T) := by
  have hlt := some_lt h
  simp only [World.setCell, Array.getElem?_modify]
  simp [h]
theorem two_cells {w : World} {b : Nat} {T : TypeId} {a0 a1 : Value} (h : w.heap[b]? = some (.cells #[a0, a1] T)) : (w.cell? ⟨b, 0, none⟩ = some a0 ∧ w.cell? ⟨b, 1, none⟩ = some a1) ∧ w.frozen? ⟨b, 0, none⟩ = false ∧ w.frozen? ⟨b, 1, none⟩ = false := by simp [World.cell?, World.frozen?, h]
theorem two_far (W : World) (b k : Nat) (hk : k ≠ b) (x y : Value) : ((W.setCell ⟨b, 0, none⟩ x).setCell ⟨b, 1, none⟩ y).heap[k]? = W.heap[k]? := (Below.heap_setCell _ _ _ _ hk).trans (Below.heap_setCell _ _ _ _ hk)
variable {w : World} {z : Nat} {p0 q0 : List Sn} {uo dv : Option Addr} {uc dc : Nat} {b : Option (Nat × Int)} {wr W5 : World}
theorem bestC_two (b : Option (Nat × Int)) : ∃ a0 a1, bestC b = #[a0, a1] := by
  cases b with
  | none => exact ⟨_, _, rfl⟩
  | some rd => obtain ⟨r, d⟩ := rd; exact ⟨_, _, rfl⟩
end Go.Proofs.Ytlehlghagddogaa.Qy

namespace Go.Proofs.Ytlehlghagddogaa.Qy
open Go.RowKit Go.Extern Go.Shelf Hi Cb

attribute [local go_sem] Oper.semAt_some

/-- two nodes of a hierarchy in form. -/
def Nodes (h : Hr) (s t : Int) : Prop := chk h = (0, []) ∧ (0 ≤ s ∧ s < (h.node.length : Int)) ∧ (0 ≤ t ∧ t < (h.node.length : Int))
/-- the error of a question. -/
def qErr (h : Hr) (s t : Int) : Int × List (Int × Int) :=
  if chk h ≠ (0, []) then chk h else if ¬ (0 ≤ s ∧ s < (h.node.length : Int)) then (7, [(3, 0)]) else if ¬ (0 ≤ t ∧ t < (h.node.length : Int)) then (7, [(3, 1)]) else if meetL h s.toNat t.toNat = none then (16, []) else (0, [])
theorem qErr_chk {h : Hr} {s t : Int} (hc : chk h ≠ (0, [])) : qErr h s t = chk h := by unfold qErr; rw [if_pos hc]
theorem qErr_s {h : Hr} {s t : Int} (hc : chk h = (0, [])) (g : ¬ (0 ≤ s ∧ s < (h.node.length : Int))) : qErr h s t = (7, [(3, 0)]) := by unfold qErr; rw [if_neg (by simp [hc]), if_pos g]
theorem qErr_t {h : Hr} {s t : Int} (hc : chk h = (0, [])) (g1 : 0 ≤ s ∧ s < (h.node.length : Int)) (g : ¬ (0 ≤ t ∧ t < (h.node.length : Int))) : qErr h s t = (7, [(3, 1)]) := by unfold qErr; rw [if_neg (by simp [hc]), if_neg (fun q => q g1), if_pos g]
theorem qErr_no {h : Hr} {s t : Int} (hn : Nodes h s t) (g : meetL h s.toNat t.toNat = none) : qErr h s t = (16, []) := by unfold qErr; rw [if_neg (by simp [hn.1]), if_neg (fun q => q hn.2.1), if_neg (fun q => q hn.2.2), if_pos g]
theorem qErr_ok {h : Hr} {s t : Int} (hn : Nodes h s t) {x : Nat × Int} (g : meetL h s.toNat t.toNat = some x) : qErr h s t = (0, []) := by unfold qErr; rw [if_neg (by simp [hn.1]), if_neg (fun q => q hn.2.1), if_neg (fun q => q hn.2.2), if_neg (by simp [g])]
end Go.Proofs.Ytlehlghagddogaa.Qy

namespace Go.Proofs.Ytlehlghagddogaa.Qy
open Go.RowKit Go.Extern Go.Shelf Hi Cb

attribute [local go_sem] Oper.semAt_some

theorem low_relaxs' {d : Int} {r : Nat} (hd : 0 ≤ d ∧ d ≤ (r : Int) * 140737488355328) : ∀ (row : List Lk) (vs : List (Option Int)), (∀ l ∈ row, r < l.hd ∧ l.wt ≤ 140737488355328) → Low vs → Low (relaxs d row vs)
  | [], vs, _, h => h
  | l :: t, vs, hr, h => by
    obtain ⟨h1, h2⟩ := hr l (List.mem_cons_self ..)
    exact low_relaxs' hd t (relax vs l.hd (d + l.wt)) (fun x hx => hr x (List.mem_cons_of_mem _ hx)) (low_relax h (by omega))
theorem run_low (N : Nat) (row : Nat → List Lk) (hrow : ∀ r, r < N → ∀ l ∈ row r, r < l.hd ∧ l.wt ≤ 140737488355328) : ∀ (m r : Nat) (vs : List (Option Int)) (out : List (Nat × Int)), r + m ≤ N → Low vs → (∀ x ∈ out, 0 ≤ x.2 ∧ x.2 ≤ (x.1 : Int) * 140737488355328) → ∀ x ∈ (run row m r vs out).2, 0 ≤ x.2 ∧ x.2 ≤ (x.1 : Int) * 140737488355328
  | 0, r, vs, out, _, _, ho, x, hx => ho x hx
  | m + 1, r, vs, out, hm, hv, ho, x, hx => by
    rw [run] at hx
    split at hx
    · rename_i d hd
      refine run_low N row hrow m (r + 1) _ _ (by omega) (low_relaxs' (hv _ _ hd) _ _ (hrow r (by omega)) hv) (fun y hy => ?_) x hx
      rcases List.mem_append.1 hy with h | h
      · exact ho y h
      · simp at h
        subst h
        exact hv _ _ hd
    · exact run_low N row hrow m (r + 1) _ _ (by omega) hv ho x hx
theorem climbed_bounds {n s : Nat} (hn : n ≤ 65536) (a b : Nat → List Lk) (ha : ∀ r, r < n → ∀ l ∈ a r, r < l.hd ∧ l.hd < n ∧ l.wt ≤ 140737488355328) : ∀ x ∈ climbed n s a b, 0 ≤ x.2.1 ∧ x.2.1 < 9223372036854775808 := by
  intro x hx
  unfold climbed at hx
  simp only at hx
  obtain ⟨y, hy, rfl⟩ := List.mem_map.1 hx
  have g := run_low n a (fun r hr l hl => ⟨(ha r hr l hl).1, (ha r hr l hl).2.2⟩) n 0 (Cb.start n s) [] (by omega) (low_start n s) (fun x hx => by simp at hx) y hy
  have g2 := run_out a n 0 (Cb.start n s) [] y hy
  have g3 : y.1 < n := by
    rcases g2 with g2 | g2
    · simp at g2
    · omega
  simp only
  omega
theorem climbed_len (n s : Nat) (a b : Nat → List Lk) : (climbed n s a b).length ≤ n := by
  unfold climbed
  rw [List.length_map]
  have := run_len a n 0 (Cb.start n s) []
  simpa using this
theorem up_bounds {h : Hr} (hc : chk h = (0, [])) (r : Nat) : (∀ x ∈ upL h r, 0 ≤ x.2.1 ∧ x.2.1 < 9223372036854775808) ∧ (upL h r).length ≤ 65536 := by
  have k1 := (chk_ok hc).1
  exact ⟨climbed_bounds k1 _ _ (fun r hr l hl => row_form hc hr (Or.inl hl)), Nat.le_trans (climbed_len _ _ _ _) k1⟩
theorem dn_bounds {h : Hr} (hc : chk h = (0, [])) (r : Nat) : (∀ x ∈ dnL h r, 0 ≤ x.2.1 ∧ x.2.1 < 9223372036854775808) ∧ (dnL h r).length ≤ 65536 := by
  have k1 := (chk_ok hc).1
  exact ⟨climbed_bounds k1 _ _ (fun r hr l hl => row_form hc hr (Or.inr hl)), Nat.le_trans (climbed_len _ _ _ _) k1⟩
/-- what meet answers. -/
def MR (h : Hr) (s t : Int) (r : Nat) (d : Int) (u : Value) : Prop :=
  (Nodes h s t ∧ meetL h s.toNat t.toNat = some (r, d) ∧ u = .nilIface) ∨ ((¬ Nodes h s t ∨ meetL h s.toNat t.toNat = none) ∧ r = 0 ∧ d = 0 ∧ ∃ T x, u = .iface T x)
end Go.Proofs.Ytlehlghagddogaa.Qy

namespace Go.Proofs.Ytlehlghagddogaa.Hi
open Go.RowKit Go.Extern

section
variable {P : Program} {md : Region.Mode} {ops : Array Oper} {Q : Exit → Act → World → Prop} {S : World → Prop} {z : Nat}
def wpAnyZ (P : Program) (md : Region.Mode) (ops : Array Oper) (Q : Exit → Act → World → Prop) (S : World → Prop) (z : Nat) : Nat → Array Bool → Act → World → Prop
  | 0, _, _, _ => False
  | fuel + 1, listed, a, w => ∀ w1, Grows w w1 → S w1 →
    Region.ready md ops listed ≠ [] ∧
    ∀ i ∈ Region.ready md ops listed, Go.wpOp P ops Q i (fun a' w' => if i = z then Region.ready md ops (listed.setIfInBounds i true) = [] ∧ Q .normal a' w' else S w' ∧ wpAnyZ P md ops Q S z fuel (listed.setIfInBounds i true) a' w') a w1
theorem wpAnyZ.up {w w1 : World} (hg : Grows w w1) : ∀ {fuel : Nat} {listed : Array Bool} {a : Act}, wpAnyZ P md ops Q S z fuel listed a w → wpAnyZ P md ops Q S z fuel listed a w1
  | 0, _, _, h => h
  | _ + 1, _, _, h => fun w2 h2 hS => h w2 (hg.trans h2) hS
theorem wpAny_of_Z : ∀ (fuel : Nat) (listed : Array Bool) (a : Act) (w : World), wpAnyZ P md ops Q S z fuel listed a w → S w → wpAny P md ops Q fuel listed a w
  | 0, _, _, _, h, _ => h.elim
  | fuel + 1, listed, a, w, h, hS => by
    obtain ⟨h1, h2⟩ := h w (Grows.refl w) hS
    refine ⟨fun e => absurd e h1, fun i hi => wpOp_mono (fun a' w' h' => ?_) (h2 i hi)⟩
    by_cases e : i = z
    · rw [if_pos e] at h'
      cases fuel with
      | zero => exact h'
      | succ f => exact ⟨fun _ => h'.2, by rw [h'.1]; simp⟩
    · rw [if_neg e] at h'
      exact wpAny_of_Z fuel _ a' w' h'.2 h'.1
theorem wpAnyZ_first {i : Nat} {oi oz : Oper} {v : Value} (hi : ops[i]? = some oi) (hoz : ops[z]? = some oz) (hzi : ∃ e ∈ oz.after, Region.binds md e = true ∧ e.on = i) (hne : i ≠ z) (hsel : ∀ (j : Nat) (o : Oper) cs b, ops[j]? = some o → o.op ≠ .select cs b)
    (hQ : ∀ c a w, Q (.panic c) (a.put oi.dst v) w → Q (.panic c) a w) :
    ∀ (fuel : Nat) (listed : Array Bool) (a : Act) (w : World),
      (∀ j oj, ops[j]? = some oj → j ≠ i → listed.getD j true = false → (∀ e ∈ oj.after, Region.binds md e = true → e.on ≠ i) → oi.apart ops oj = true) →
      i ∈ Region.ready md ops listed → YieldsM P ops S oi v a →
      wpAnyZ P md ops Q S z fuel (listed.setIfInBounds i true) (a.put oi.dst v) w → wpAnyZ P md ops Q S z (fuel + 1) listed a w := by
  intro fuel
  induction fuel with
  | zero => intro listed a w _ _ _ H; exact H.elim
  | succ fuel ih =>
    intro listed a w hfree hr hy H w1 hg hS
    refine ⟨fun h => (by rw [h] at hr; cases hr), fun j hj => ?_⟩
    by_cases hji : j = i
    · subst hji
      refine hy.wpOp hi hS fun w' h1 h2 => ?_
      rw [if_neg hne]
      exact ⟨h2, H.up (hg.trans h1)⟩
    · have h1 := (H w1 hg hS).2 j (ready_mono hj hji)
      obtain ⟨hjun, oj, hoj, hall⟩ := mem_ready.1 hj
      have hnot : ∀ e ∈ oj.after, Region.binds md e = true → e.on ≠ i := fun e he hb heq => by
        have h1 := hall e he hb
        have h0 := (mem_ready.1 hr).1
        rw [heq] at h1
        rcases Nat.lt_or_ge i listed.size with h' | h'
        · simp [h'] at h0 h1; rw [h0] at h1; cases h1
        · simp [Array.getElem?_eq_none h'] at h1
      have hjz : j ≠ z := fun e => by
        subst e
        obtain rfl : oj = oz := Option.some.inj (hoj.symm.trans hoz)
        obtain ⟨e, he, hb, heq⟩ := hzi
        exact hnot e he hb heq
      simp only [hjz, if_false] at h1 ⊢
      have h2 := wpOp_putM hoj (hfree j oj hoj hji hjun hnot) (fun cs b => hsel i oi cs b hi) (fun cs b => hsel j oj cs b hoj) hQ hy h1
      have hfree' : ∀ k ok, ops[k]? = some ok → k ≠ i → (listed.setIfInBounds j true).getD k true = false →
          (∀ e ∈ ok.after, Region.binds md e = true → e.on ≠ i) → oi.apart ops ok = true := fun k ok hk hki hun hno => by
        refine hfree k ok hk hki ?_ hno
        by_cases hjk : j = k
        · subst hjk; exact hjun
        · rw [getD_set_ne true hjk] at hun; exact hun
      refine wpOp_mono (fun a' w' h3 => ⟨h3.2.1, ih (listed.setIfInBounds j true) a' w' hfree' (ready_mono hr (Ne.symm hji)) h3.1 ?_⟩) h2
      rw [Array.setIfInBounds_comm _ _ hji]
      exact h3.2.2
theorem wpAnyZ_take {i : Nat} {oi oz : Oper} {v : Value} {fuel : Nat} {listed : Array Bool} {a : Act} {w : World} (hi : ops[i]? = some oi) (hoz : ops[z]? = some oz) (hzi : (oz.after.any fun e => Region.binds md e && e.on == i) = true) (hne : (i == z) = false)
    (hs : Region.noSelect ops = true) (hf : Region.free md ops listed i = true) (hr : (Region.ready md ops listed).contains i = true)
    (hQ : ∀ c a w, Q (.panic c) (a.put oi.dst v) w → Q (.panic c) a w) (hy : YieldsM P ops S oi v a)
    (h : wpAnyZ P md ops Q S z fuel (listed.setIfInBounds i true) (a.put oi.dst v) w) : wpAnyZ P md ops Q S z (fuel + 1) listed a w := by
  refine wpAnyZ_first hi hoz ?_ (by simpa using hne) (Region.noSelect_spec hs) hQ fuel listed a w (Region.free_spec hi hf) (by simpa using hr) hy h
  rw [Array.any_eq_true] at hzi
  obtain ⟨k, hk, h1⟩ := hzi
  simp only [Bool.and_eq_true, beq_iff_eq] at h1
  exact ⟨oz.after[k], Array.getElem_mem hk, h1.1, h1.2⟩
/-- the last one. -/
theorem lastZ {o : Oper} {fuel : Nat} {listed : Array Bool} {a : Act} {w : World} (ho : ops[z]? = some o) (hr : Region.ready md ops listed = [z]) (he : Region.ready md ops (listed.setIfInBounds z true) = [])
    (h : ∀ w1, Grows w w1 → S w1 → ∀ K' : Act → World → Prop, Shut (∀ a w, Q .normal a w → K' a w) → if Region.wanted o (yielded ops a.tmps) = true then Oper.wp P o a w1 K' Q else K' (a.put o.dst undef) w1) : wpAnyZ P md ops Q S z (fuel + 1) listed a w :=
  fun w1 hg hS => ⟨by rw [hr]; simp, fun j hj => by
    rw [hr] at hj
    obtain rfl : j = z := by simpa using hj
    refine wpOp_step ho (fun K' hK => h w1 hg hS K' (fun a w hW => hK a w ?_))
    rw [if_pos rfl]
    exact ⟨he, hW⟩⟩
theorem wp_region_Z {id : Nat} {a : Act} {w : World} (hm : P.follows .mixedOrders = true) (hS : S w.drew)
    (h : wpAnyZ P .any ops Q S z ops.size (Array.replicate ops.size false) a w.drew) : (Code.region id ops true).wp P Q a w :=
  wp_region_any hm (wpAny_of_Z _ _ _ _ h hS)
end
end Go.Proofs.Ytlehlghagddogaa.Hi

namespace Go.Proofs.Ytlehlghagddogaa.Cb
open Hi

theorem dv_of_get {V : List (Option Int)} {j : Nat} {o : Option Int} (h : V[j]? = some o) : dv V j = o.getD far := by
  cases o with
  | none => exact dv_none fun d hd => by rw [h] at hd; cases hd
  | some d => exact dv_some h
theorem dv_relax {vs : List (Option Int)} {x : Nat} {d : Int} (hx : x < vs.length) (hd : d ≤ far) (j : Nat) : dv (relax vs x d) j = upd (dv vs) x (if d < dv vs x then d else dv vs x) j := by
  unfold upd
  by_cases e : j = x
  · subst e
    rw [if_pos rfl]
    unfold relax
    split
    · rename_i k hk
      rw [dv_some hk]
      split
      · rename_i g
        exact dv_some (by rw [List.getElem?_set_self hx])
      · exact dv_some hk
    · rename_i hk
      have hn : ∀ q, vs[j]? ≠ some (some q) := fun q hq => hk q hq
      rw [dv_none hn, dv_some (by rw [List.getElem?_set_self hx])]
      split
      · rfl
      · omega
  · rw [if_neg e]
    unfold dv
    rw [relax_other e]
theorem run_hit {row : Nat → List Lk} {m r : Nat} {vs : List (Option Int)} {out : List (Nat × Int)} {d : Int} (h : vs[r]? = some (some d)) : run row (m + 1) r vs out = run row m (r + 1) (relaxs d (row r) vs) (out ++ [(r, d)]) := by
  rw [run, h]
theorem run_miss {row : Nat → List Lk} {m r : Nat} {vs : List (Option Int)} {out : List (Nat × Int)} (h : ∀ d, vs[r]? ≠ some (some d)) : run row (m + 1) r vs out = run row m (r + 1) vs out := by
  rw [run]
  split
  · rename_i d hd
    exact absurd hd (h d)
  · rfl
theorem relaxs_snoc {d : Int} {row : List Lk} {t : Nat} {l : Lk} {vs : List (Option Int)} (h : row[t]? = some l) : relaxs d (row.take (t + 1)) vs = relax (relaxs d (row.take t) vs) l.hd (d + l.wt) := by
  unfold relaxs
  rw [List.take_add_one, h, List.foldl_append]
  rfl
theorem dv_start {n s : Nat} (hs : s < n) (j : Nat) : dv (start n s) j = upd (fun _ => far) s 0 j := by
  unfold upd start
  by_cases e : j = s
  · subst e
    rw [if_pos rfl]
    exact dv_some (by rw [List.getElem?_set_self (by simpa using hs)])
  · rw [if_neg e]
    refine dv_none fun d hd => ?_
    rw [List.getElem?_set_ne (Ne.symm e), List.getElem?_replicate] at hd
    split at hd <;> cases hd
theorem start_len (n s : Nat) : (start n s).length = n := by simp [start]
/-- where the reference stands ahead of the rank r. -/
structure Mid (row : Nat → List Lk) (n s r : Nat) (vs : List (Option Int)) : Prop where
  len : vs.length = n
  low : Low vs
  run : ∃ out, run row (n - r) r vs out = run row n 0 (start n s) []
theorem mid_start (row : Nat → List Lk) (n s : Nat) : Mid row n s 0 (start n s) := ⟨start_len n s, low_start n s, [], rfl⟩
theorem Mid.miss {row : Nat → List Lk} {n s r : Nat} {vs : List (Option Int)} (h : Mid row n s r vs) (hr : r < n) (hv : ∀ d, vs[r]? ≠ some (some d)) : Mid row n s (r + 1) vs := by
  obtain ⟨out, ho⟩ := h.run
  refine ⟨h.len, h.low, out, ?_⟩
  rw [← ho, show n - r = (n - (r + 1)) + 1 by omega, run_miss hv]
theorem Mid.hit {row : Nat → List Lk} {n s r : Nat} {vs : List (Option Int)} {d : Int} (h : Mid row n s r vs) (hr : r < n) (hv : vs[r]? = some (some d)) (hrow : ∀ l ∈ row r, r < l.hd ∧ l.hd < n ∧ l.wt ≤ 140737488355328) : Mid row n s (r + 1) (relaxs d (row r) vs) := by
  obtain ⟨out, ho⟩ := h.run
  refine ⟨by rw [relaxs_len, h.len], Qy.low_relaxs' (h.low r d hv) _ _ (fun l hl => ⟨(hrow l hl).1, (hrow l hl).2.2⟩) h.low, out ++ [(r, d)], ?_⟩
  rw [← ho, show n - r = (n - (r + 1)) + 1 by omega, run_hit hv]
theorem Mid.fin {row : Nat → List Lk} {n s : Nat} {vs : List (Option Int)} (h : Mid row n s n vs) : vs = lens row n s := by
  obtain ⟨out, ho⟩ := h.run
  rw [Nat.sub_self] at ho
  show vs = (Cb.run row n 0 (start n s) []).1
  rw [← ho]
  rfl
theorem low_some {vs : List (Option Int)} {n x : Nat} {k : Int} (h : Low vs) (hl : vs.length = n) (hn : n ≤ 65536) (hk : vs[x]? = some (some k)) : 0 ≤ k ∧ k < 9223372036854775808 := by
  have g := h x k hk
  have hx : x < n := by rw [← hl]; exact (List.getElem?_eq_some_iff.1 hk).1
  have h2 : (x : Int) * 140737488355328 ≤ 65535 * 140737488355328 := Int.mul_le_mul_of_nonneg_right (by omega) (by decide)
  omega
/-- lengths at the end. -/
theorem lens_len {row : Nat → List Lk} {n s : Nat} (hs : s < n) (hrow : ∀ r, r < n → ∀ l ∈ row r, r < l.hd ∧ l.hd < n) : (lens row n s).length = n := (lens_way hs hrow).1.len
/-- is the link shorter? -/
def shorter (vs : List (Option Int)) (l : Lk) (d : Int) : Bool := match vs[l.hd]? with
  | some (some a) => decide (a + l.wt < d)
  | _ => false
theorem shorter_some {vs : List (Option Int)} {l : Lk} {d a : Int} (h : vs[l.hd]? = some (some a)) : shorter vs l d = decide (a + l.wt < d) := by unfold shorter; rw [h]
theorem shorter_none {vs : List (Option Int)} {l : Lk} {d : Int} (h : ∀ a, vs[l.hd]? ≠ some (some a)) : shorter vs l d = false := by
  unfold shorter
  split
  · rename_i a ha
    exact absurd ha (h a)
  · rfl
theorem stalled_short (vs : List (Option Int)) (row : List Lk) (d : Int) : stalled vs row d = row.any fun l => shorter vs l d := rfl
theorem stalled_snoc {vs : List (Option Int)} {row : List Lk} {t : Nat} {l : Lk} {d : Int} (h : row[t]? = some l) : stalled vs (row.take (t + 1)) d = (stalled vs (row.take t) d || shorter vs l d) := by
  rw [stalled_short, stalled_short, List.take_add_one, h, List.any_append]
  simp
/-- what stands in the answer for the ranks below r. -/
def snTo (V : List (Option Int)) (back : Nat → List Lk) (r : Nat) : List (Nat × Int × Bool) := (outs V r).map fun x => (x.1, x.2, stalled V (back x.1) x.2)
theorem snTo_zero (V : List (Option Int)) (back : Nat → List Lk) : snTo V back 0 = [] := rfl
theorem snTo_hit {V : List (Option Int)} {back : Nat → List Lk} {r : Nat} {d : Int} (h : V[r]? = some (some d)) : snTo V back (r + 1) = snTo V back r ++ [(r, d, stalled V (back r) d)] := by
  unfold snTo
  rw [outs_succ, List.filterMap_cons, pickO_some h]
  simp
theorem snTo_miss {V : List (Option Int)} {back : Nat → List Lk} {r : Nat} (h : ∀ d, V[r]? ≠ some (some d)) : snTo V back (r + 1) = snTo V back r := by
  unfold snTo
  rw [outs_succ, List.filterMap_cons, pickO_none h]
  simp
theorem snTo_len (V : List (Option Int)) (back : Nat → List Lk) (r : Nat) : (snTo V back r).length ≤ r := by
  unfold snTo outs
  rw [List.length_map]
  exact Nat.le_trans (List.length_filterMap_le _ _) (by simp)
theorem snTo_end {row back : Nat → List Lk} {n s : Nat} (hs : s < n) (hrow : ∀ r, r < n → ∀ l ∈ row r, r < l.hd ∧ l.hd < n) : snTo (lens row n s) back n = climbed n s row back := by
  have h := (lens_way hs hrow).2
  unfold snTo climbed
  simp only
  rw [← h]
  rfl
theorem dv_range {V : List (Option Int)} {n j : Nat} (hl : V.length = n) (hj : j < n) : (∃ d, V[j]? = some (some d)) ∨ V[j]? = some none := by
  have : V[j]? = some V[j] := List.getElem?_eq_getElem (by omega)
  rw [this]
  cases V[j] with
  | none => exact Or.inr rfl
  | some d => exact Or.inl ⟨d, rfl⟩
end Go.Proofs.Ytlehlghagddogaa.Cb
