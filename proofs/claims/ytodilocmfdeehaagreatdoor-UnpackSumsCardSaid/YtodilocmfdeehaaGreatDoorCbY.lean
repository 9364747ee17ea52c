/- climbing: what is reached from a rank over links that rise, plain mathematics. heap.Push, whose keys are the things' own numbers. a climber in memory; rows.at, climber.reach. rows.at; the heap's least rank; lists of what is seen. climber.reached: what can be reached over links that rise. climber.stall. climb's newClimber and search. hier.Turn at a hierarchy that is not in form; what HierTurns leans on. climb.Up and climb.Down; the law's great and of; the reference's Same. (gencg.py) where two lists of ranks meet: plain mathematics. query.nearest. query.ends. query.meet, Distance and Meet. query.Distance and Meet; the law's great and awake. (genqd.py) -/
import Derived.Test.YtodilocmfdeehaaGreatDoorHtA
import Derived.Test.YtodilocmfdeehaaGreatDoorHpA
import Derived.Test.YtodilocmfdeehaaGreatDoorHsA
import Derived.Laws.OwnMore
import Derived.Test.YtodilocmfdeehaaGreatDoorHrZ
import Derived.Deep.RegionHeld3
import Derived.Test.YtodilocmfdeehaaGreatDoorHsF
import Derived.Test.YtodilocmfdeehaaGreatDoorHrR
import Derived.Test.YtodilocmfdeehaaGreatDoorHrQ
namespace Go.Proofs.YtodilocmfdeehaaGreatDoor.Cb
open Hi

/-- a length comes to a rank. -/
def relax (vs : List (Option Int)) (x : Nat) (d : Int) : List (Option Int) := match vs[x]? with
  | some (some k) => if d < k then vs.set x (some d) else vs
  | _ => vs.set x (some d)
/-- all links of a rank. -/
def relaxs (d : Int) (row : List Lk) (vs : List (Option Int)) : List (Option Int) := row.foldl (fun vs l => relax vs l.hd (d + l.wt)) vs
/-- the links at a rank. -/
def rowL (F : List Nat) (L : List Lk) (r : Nat) : List Lk := (L.drop (nth F r)).take (nth F (r + 1) - nth F r)
/-- m ranks from r on. -/
def run (row : Nat → List Lk) : Nat → Nat → List (Option Int) → List (Nat × Int) → List (Option Int) × List (Nat × Int)
  | 0, _, vs, out => (vs, out)
  | m + 1, r, vs, out => match vs[r]? with
    | some (some d) => run row m (r + 1) (relaxs d (row r) vs) (out ++ [(r, d)])
    | _ => run row m (r + 1) vs out
def start (n s : Nat) : List (Option Int) := (List.replicate n none).set s (some 0)
/-- is one of the links back shorter? -/
def stalled (vs : List (Option Int)) (row : List Lk) (d : Int) : Bool := row.any fun l => match vs[l.hd]? with
  | some (some a) => decide (a + l.wt < d)
  | _ => false
/-- what a search answers. -/
def climbed (n s : Nat) (ahead back : Nat → List Lk) : List (Nat × Int × Bool) :=
  let R := run ahead n 0 (start n s) []
  R.2.map fun x => (x.1, x.2, stalled R.1 (back x.1) x.2)

theorem relax_len (vs : List (Option Int)) (x : Nat) (d : Int) : (relax vs x d).length = vs.length := by
  unfold relax
  split
  · split <;> simp
  · simp
theorem relax_other {vs : List (Option Int)} {x y : Nat} {d : Int} (h : y ≠ x) : (relax vs x d)[y]? = vs[y]? := by
  unfold relax
  split
  · split
    · rw [List.getElem?_set_ne (fun e => h e.symm)]
    · rfl
  · rw [List.getElem?_set_ne (fun e => h e.symm)]
theorem relax_at {vs : List (Option Int)} {x : Nat} {d : Int} (h : x < vs.length) : ∃ k, (relax vs x d)[x]? = some (some k) ∧ (k = d ∨ vs[x]? = some (some k)) := by
  unfold relax
  split
  · rename_i k hk
    split
    · exact ⟨d, by simp [h], Or.inl rfl⟩
    · exact ⟨k, hk, Or.inr hk⟩
  · exact ⟨d, by simp [h], Or.inl rfl⟩
/-- lengths are no greater than so many links make. -/
def Low (vs : List (Option Int)) : Prop := ∀ (x : Nat) (k : Int), vs[x]? = some (some k) → 0 ≤ k ∧ k ≤ (x : Int) * 140737488355328
theorem low_relax {vs : List (Option Int)} (h : Low vs) {x : Nat} {d : Int} (hd : 0 ≤ d ∧ d ≤ (x : Int) * 140737488355328) : Low (relax vs x d) := by
  intro y k hk
  by_cases e : y = x
  · subst e
    have hlt : y < vs.length := by have := (List.getElem?_eq_some_iff.1 hk).1; rwa [relax_len] at this
    obtain ⟨k2, h2, h3⟩ := relax_at (d := d) hlt
    rw [h2] at hk
    obtain rfl : k2 = k := by simpa using hk
    rcases h3 with rfl | h3
    · exact hd
    · exact h y k2 h3
  · rw [relax_other e] at hk
    exact h y k hk
/-- the ranks that wait: those from r on that have a length. -/
def waits (vs : List (Option Int)) (r : Nat) (z : Int) : Option Int := match vs[z.toNat]? with
  | some (some _) => if (r : Int) ≤ z then some z else none
  | _ => none
theorem waits_some {vs : List (Option Int)} {r x : Nat} {k : Int} (h : waits vs r (x : Int) = some k) : k = (x : Int) ∧ r ≤ x ∧ ∃ d, vs[x]? = some (some d) := by
  unfold waits at h
  rw [Int.toNat_natCast] at h
  split at h
  · rename_i d hd
    split at h
    · rename_i hr
      exact ⟨(Option.some.inj h).symm, by omega, d, hd⟩
    · cases h
  · cases h
theorem waits_none {vs : List (Option Int)} {r x : Nat} (h : waits vs r (x : Int) = none) : x < r ∨ vs[x]? = some none ∨ vs[x]? = none := by
  unfold waits at h
  rw [Int.toNat_natCast] at h
  split at h
  · split at h
    · cases h
    · left; omega
  · rename_i hd
    right
    cases e : vs[x]? with
    | none => exact Or.inr rfl
    | some o =>
      cases o with
      | none => exact Or.inl rfl
      | some d => exact absurd e (hd d)
/-- ranks without a length are passed over. -/
theorem run_skip (row : Nat → List Lk) {vs : List (Option Int)} {out : List (Nat × Int)} : ∀ (j m r : Nat), j ≤ m → (∀ x, r ≤ x → x < r + j → vs[x]? = some none ∨ vs[x]? = none) → run row m r vs out = run row (m - j) (r + j) vs out
  | 0, m, r, _, _ => by simp
  | j + 1, m, r, hj, h => by
    obtain ⟨m', rfl⟩ : ∃ m', m = m' + 1 := ⟨m - 1, by omega⟩
    have h0 := h r (Nat.le_refl _) (by omega)
    have e : run row (m' + 1) r vs out = run row m' (r + 1) vs out := by
      rw [run]
      rcases h0 with h0 | h0 <;> rw [h0]
    rw [e, run_skip row j m' (r + 1) (by omega) (fun x h1 h2 => h x (by omega) (by omega))]
    congr 1 <;> omega
theorem run_take (row : Nat → List Lk) {vs : List (Option Int)} {out : List (Nat × Int)} {n r x : Nat} {d : Int} (hr : r ≤ x) (hx : x < n) (hd : vs[x]? = some (some d)) (hn : ∀ y, r ≤ y → y < x → vs[y]? = some none ∨ vs[y]? = none) :
    run row (n - r) r vs out = run row (n - (x + 1)) (x + 1) (relaxs d (row x) vs) (out ++ [(x, d)]) := by
  rw [run_skip row (x - r) (n - r) r (by omega) (fun y h1 h2 => hn y h1 (by omega)), show n - r - (x - r) = (n - (x + 1)) + 1 by omega, show r + (x - r) = x by omega, run, hd]
theorem run_end (row : Nat → List Lk) {vs : List (Option Int)} {out : List (Nat × Int)} {n r : Nat} (hr : r ≤ n) (hn : ∀ y, r ≤ y → y < n → vs[y]? = some none ∨ vs[y]? = none) : run row (n - r) r vs out = (vs, out) := by
  rw [run_skip row (n - r) (n - r) r (Nat.le_refl _) (fun y h1 h2 => hn y h1 (by omega)), Nat.sub_self, run]
/-- Up and Down. -/
def upL (h : Hr) (s : Nat) : List (Nat × Int × Bool) := climbed h.node.length s (rowL h.upF h.up) (rowL h.dnF h.dn)
def dnL (h : Hr) (s : Nat) : List (Nat × Int × Bool) := climbed h.node.length s (rowL h.dnF h.dn) (rowL h.upF h.up)
theorem row_at {F : List Nat} {L : List Lk} (hF : FOk F L.length) {r : Nat} (hr : r + 1 < F.length) {l : Lk} (hl : l ∈ rowL F L r) : ∃ i : Nat, (rkL F L)[i]? = some (r, l) := by
  obtain ⟨j, hj⟩ := List.mem_iff_getElem?.1 hl
  unfold rowL at hj
  rw [List.getElem?_take] at hj
  split at hj
  · rename_i h1
    rw [List.getElem?_drop] at hj
    have h2 : nth F r + j < (rkL F L).length := by rw [rkL_len hF]; exact (List.getElem?_eq_some_iff.1 hj).1
    refine ⟨nth F r + j, ?_⟩
    obtain ⟨y, hy⟩ : ∃ y, (rkL F L)[nth F r + j]? = some y := ⟨_, List.getElem?_eq_getElem h2⟩
    obtain ⟨a1, a2, a3, a4⟩ := rkL_get hF hy
    rw [hj] at a1
    have e2 : y.2 = l := (Option.some.inj a1).symm
    have e1 : y.1 = r := by
      rcases Nat.lt_trichotomy y.1 r with h3 | h3 | h3
      · have := hF.mono (a := y.1 + 1) (b := r) h3 (by omega); omega
      · exact h3
      · have := hF.mono (a := r + 1) (b := y.1) h3 (by omega); omega
    rw [hy, ← e1, ← e2]
  · cases hj
/-- a link of a row, in form. -/
theorem row_form {h : Hr} (hc : chk h = (0, [])) {r : Nat} (hr : r < h.node.length) {l : Lk} (hl : l ∈ rowL h.upF h.up r ∨ l ∈ rowL h.dnF h.dn r) : r < l.hd ∧ l.hd < h.node.length ∧ l.wt ≤ 140737488355328 := by
  obtain ⟨k1, k2, k3, k4, k5, k6, k7, k8⟩ := chk_ok hc
  have key : ∀ (i : Nat) (s : Sd), (stds h)[i]? = some s → s.rk = r → s.lk = l → r < l.hd ∧ l.hd < h.node.length ∧ l.wt ≤ 140737488355328 := fun i s hs e1 e2 => by
    have hi := (List.getElem?_eq_some_iff.1 hs).1
    have f := in_form hc hi
    have f1 := f.low
    have f2 := f.high
    have f3 := f.mak
    rw [sd_of hs, e1, e2] at f1
    rw [sd_of hs, e2] at f2
    rw [sd_of hs] at f3
    refine ⟨f1, f2, ?_⟩
    cases hp : s.lk.plain
    · have := ((made_iff hp).1 f3).ws
      rw [e2] at this
      omega
    · unfold making at f3
      rw [if_pos hp] at f3
      split at f3
      · cases f3
      · rename_i g
        rw [e2] at g
        omega
  rcases hl with hl | hl
  · obtain ⟨i, hi⟩ := row_at k5 (by omega) hl
    have hlt := (List.getElem?_eq_some_iff.1 hi).1
    refine key i ⟨l, r, true⟩ ?_ rfl rfl
    unfold stds
    rw [List.getElem?_append_left (by rw [List.length_map]; exact hlt), List.getElem?_map, hi]
    rfl
  · obtain ⟨i, hi⟩ := row_at k6 (by omega) hl
    refine key ((rkL h.upF h.up).length + i) ⟨l, r, false⟩ ?_ rfl rfl
    unfold stds
    rw [List.getElem?_append_right (by rw [List.length_map]; omega), List.length_map, show (rkL h.upF h.up).length + i - (rkL h.upF h.up).length = i by omega, List.getElem?_map, hi]
    rfl
end Go.Proofs.YtodilocmfdeehaaGreatDoor.Cb

namespace Go.Proofs.YtodilocmfdeehaaGreatDoor.Hp
open Go.RowKit Go.Extern

attribute [local go_sem] Oper.semAt_some
section
variable {w : World} {hb wb n : Nat} {sv : Value} {f : Int → Option Int}

set_option maxHeartbeats 1000000 in
theorem key_out (h : IsHeap w hb wb n sv f) (d : Nat) (hd : d < n) (hf : f d = none) : Calls Tryz.prog 136 #[.pointer (some ⟨hb, 0, none⟩), .int .u32 d] w fun e w' => e = .returned (.tuple #[.int .u64 0, .bool false]) ∧ w' = w := by
  obtain ⟨ps, wh, hM, hH⟩ := h
  have h0 : wh[d]? = some 0 := by
    rcases hH.back d (by rw [hM.len]; exact hd) with ⟨h0, _⟩ | ⟨i, y, _, _, _, h1⟩
    · exact h0
    · rw [hf] at h1; cases h1
  have HP : Hid (Calls Tryz.prog 139 #[.pointer (some ⟨hb, 0, none⟩), .int .u32 d] w fun e w' => e = .returned (.tuple #[.int .i64 0, .bool false]) ∧ w' = w) := place_out hM d h0
  clear hM hH h0
  go_enter Tryz.func136, Tryz.ntmps136
  go_wp2_with fail
  refine HP.out.mono ?_
  rintro e w1 ⟨rfl, hw1⟩
  subst hw1
  go_wp2
  go_ret2
  exact ⟨rfl, rfl⟩

set_option maxHeartbeats 1000000 in
theorem key_in (h : IsHeap w hb wb n sv f) (d : Nat) (hd : d < n) (k : Int) (hf : f d = some k) : Calls Tryz.prog 136 #[.pointer (some ⟨hb, 0, none⟩), .int .u32 d] w fun e w' => e = .returned (.tuple #[.int .u64 k, .bool true]) ∧ w' = w := by
  obtain ⟨ps, wh, hM, hH⟩ := h
  have hlen := hM.len
  have hbig := hM.big
  obtain ⟨i, y, h0, hy, _, hk⟩ : ∃ (i : Nat) (y : Th), wh[d]? = some ((i : Int) + 1) ∧ ps[i]? = some y ∧ y.2 = d ∧ f d = some y.1 := by
    rcases hH.back d (by omega) with ⟨_, h1⟩ | h1
    · rw [hf] at h1; cases h1
    · exact h1
  have hil := (List.getElem?_eq_some_iff.1 hy).1
  have hfew := hH.few
  obtain ⟨yk, yd⟩ := y
  obtain rfl : k = yk := by rw [hf] at hk; exact Option.some.inj hk
  have HP : Hid (Calls Tryz.prog 139 #[.pointer (some ⟨hb, 0, none⟩), .int .u32 d] w fun e w' => e = .returned (.tuple #[.int .i64 i, .bool true]) ∧ w' = w) := place_in hM d i h0 (by omega)
  obtain ⟨c0, c1, _, _⟩ := hM.cells
  obtain ⟨g, cap, e, hc1, hc2, hgl, _, _, q0, q1, _, _⟩ := hM.thing hy
  subst e
  have b1 : (0 : Int) ≤ (i : Int) := by omega
  have b2 : (i : Int) < (ps.length : Int) := by omega
  unfold maxLen at hc2
  clear hM hH h0 hy hk hf hfew
  go_enter Tryz.func136, Tryz.ntmps136
  go_wp2_with fail
  refine HP.out.mono ?_
  rintro e w1 ⟨rfl, hw1⟩
  subst hw1
  go_wp2
  go_ret2
  exact ⟨rfl, rfl⟩


set_option maxHeartbeats 1000000 in
theorem push_out (h : IsHeap w hb wb n sv f) (d : Nat) (hd : d < n) (k : Int) (hf : f d = none) : Calls Tryz.prog 131 #[.pointer (some ⟨hb, 0, none⟩), .int .u32 d, .int .u64 k] w fun e w' => e = .returned .nilIface ∧ ∃ sv', IsHeap w' hb wb n sv' (upd f d (some k)) ∧ Fr hb wb sv sv' w w' := by
  have HK : Hid (type_of% (key_out h d hd hf)) := key_out h d hd hf
  have HS : Hid (type_of% (set_calls h d hd k)) := set_calls h d hd k
  clear h hf
  go_enter Tryz.func131, Tryz.ntmps131
  go_wp2_with fail
  refine HK.out.mono ?_
  rintro e w1 ⟨rfl, hw1⟩
  subst hw1
  go_wp2_with fail
  refine HS.out.mono ?_
  rintro e w2 ⟨rfl, hS⟩
  have HS2 : Hid _ := hS
  clear hS
  go_wp2
  go_ret
  exact ⟨rfl, HS2.out⟩

set_option maxHeartbeats 1000000 in
theorem push_in (h : IsHeap w hb wb n sv f) (d : Nat) (hd : d < n) (k k0 : Int) (hf : f d = some k0) : Calls Tryz.prog 131 #[.pointer (some ⟨hb, 0, none⟩), .int .u32 d, .int .u64 k] w fun e w' => e = .returned .nilIface ∧ ∃ sv', IsHeap w' hb wb n sv' (upd f d (some (if k0 < k then k0 else k))) ∧ Fr hb wb sv sv' w w' := by
  have HK : Hid (type_of% (key_in h d hd k0 hf)) := key_in h d hd k0 hf
  by_cases hlt : k0 < k
  · rw [if_pos hlt]
    have HS : Hid (type_of% (set_calls h d hd k0)) := set_calls h d hd k0
    clear h hf
    go_enter Tryz.func131, Tryz.ntmps131
    go_wp2_with fail
    refine HK.out.mono ?_
    rintro e w1 ⟨rfl, hw1⟩
    subst hw1
    go_wp2_with fail
    refine HS.out.mono ?_
    rintro e w2 ⟨rfl, hS⟩
    have HS2 : Hid _ := hS
    clear hS
    go_wp2
    go_ret
    exact ⟨rfl, HS2.out⟩
  · rw [if_neg hlt]
    have HS : Hid (type_of% (set_calls h d hd k)) := set_calls h d hd k
    clear h hf
    go_enter Tryz.func131, Tryz.ntmps131
    go_wp2_with fail
    refine HK.out.mono ?_
    rintro e w1 ⟨rfl, hw1⟩
    subst hw1
    go_wp2_with fail
    refine HS.out.mono ?_
    rintro e w2 ⟨rfl, hS⟩
    have HS2 : Hid _ := hS
    clear hS
    go_wp2
    go_ret
    exact ⟨rfl, HS2.out⟩
/-- a thing under its own number, whether it is in or not. -/
theorem push_own (h : IsHeap w hb wb n sv f) (d : Nat) (hd : d < n) (hf : f d = none ∨ f d = some (d : Int)) : Calls Tryz.prog 131 #[.pointer (some ⟨hb, 0, none⟩), .int .u32 d, .int .u64 d] w fun e w' => e = .returned .nilIface ∧ ∃ sv', IsHeap w' hb wb n sv' (upd f d (some (d : Int))) ∧ Fr hb wb sv sv' w w' := by
  rcases hf with hf | hf
  · exact push_out h d hd d hf
  · have g := push_in h d hd d d hf
    rw [if_neg (Int.lt_irrefl _)] at g
    exact g
end
end Go.Proofs.YtodilocmfdeehaaGreatDoor.Hp

namespace Go.Proofs.YtodilocmfdeehaaGreatDoor.Cb
open Go.RowKit Go.Extern Go.Shelf Hi

attribute [local go_sem] Oper.semAt_some

/-- where a climber lies. -/
structure CP where
  ci : Nat
  sb : Nat
  pb : Nat
  hb : Nat
  wb : Nat
structure CP.Apart (L : CP) : Prop where
  cs : L.ci ≠ L.sb
  cp : L.ci ≠ L.pb
  ch : L.ci ≠ L.hb
  cw : L.ci ≠ L.wb
  sh : L.sb ≠ L.hb
  sw : L.sb ≠ L.wb
  ph : L.pb ≠ L.hb
  pw : L.pb ≠ L.wb
/-- is k one of its blocks, or of its heap's row? -/
def CP.Own (L : CP) (sv : Value) (k : Nat) : Prop := k = L.ci ∨ k = L.sb ∨ k = L.pb ∨ k = L.hb ∨ k = L.wb ∨ sv.ownBlock = some k
structure Clm (B : Nat) (w : World) (n : Nat) (L : CP) (sv : Value) (vs : List (Option Int)) (f : Int → Option Int) : Prop where
  box : w.heap[L.ci]? = some (.cells #[.pointer (some ⟨L.sb, 0, none⟩), .pointer (some ⟨L.hb, 0, none⟩)] 219)
  st : St.IsStamp w L.sb L.pb n vs
  hp : Hp.IsHeap w L.hb L.wb n sv f
  ap : L.Apart
  nc : sv.ownBlock ≠ some L.ci
  ns : sv.ownBlock ≠ some L.sb
  np : sv.ownBlock ≠ some L.pb
  up : ∀ k, L.Own sv k → B ≤ k
/-- what calls on a climber leave alone. -/
structure Fx (L : CP) (sv sv' : Value) (w w' : World) : Prop where
  os : w'.os = w.os
  tape : w'.tape = w.tape
  output : w'.output = w.output
  size : w.heap.size ≤ w'.heap.size
  block : ∀ k, k < w.heap.size → ¬ L.Own sv k → w'.heap[k]? = w.heap[k]?
  own : ∀ k, k < w.heap.size → sv'.ownBlock = some k → sv.ownBlock = some k
theorem Fx.of_below {L : CP} {sv : Value} {w w' : World} (h : Below w.heap.size w w') : Fx L sv sv w w' := ⟨h.os, h.tape, h.output, h.size, fun k hk _ => h.block k hk, fun _ _ e => e⟩
theorem Fx.trans {L : CP} {sv sv' sv'' : Value} {w w' w'' : World} (h : Fx L sv sv' w w') (g : Fx L sv' sv'' w' w'') : Fx L sv sv'' w w'' :=
  ⟨g.os.trans h.os, g.tape.trans h.tape, g.output.trans h.output, Nat.le_trans h.size g.size, fun k hk hn => (g.block k (Nat.lt_of_lt_of_le hk h.size) (fun ho => hn (by
    rcases ho with o | o | o | o | o | o
    · exact Or.inl o
    · exact Or.inr (Or.inl o)
    · exact Or.inr (Or.inr (Or.inl o))
    · exact Or.inr (Or.inr (Or.inr (Or.inl o)))
    · exact Or.inr (Or.inr (Or.inr (Or.inr (Or.inl o))))
    · exact Or.inr (Or.inr (Or.inr (Or.inr (Or.inr (h.own k hk o)))))))).trans (h.block k hk hn), fun k hk e => h.own k hk (g.own k (Nat.lt_of_lt_of_le hk h.size) e)⟩
theorem Fx.below {B : Nat} {w w' : World} {n : Nat} {L : CP} {sv sv' : Value} {vs : List (Option Int)} {f : Int → Option Int} (h : Clm B w n L sv vs f) (g : Fx L sv sv' w w') (hB : B ≤ w.heap.size) : Below B w w' :=
  ⟨g.os, g.tape, g.output, g.size, fun k hk => g.block k (by omega) (fun ho => by have := h.up k ho; omega)⟩
variable {B : Nat} {w w' : World} {n : Nat} {L : CP} {sv sv' : Value} {vs vs' : List (Option Int)} {f f' : Int → Option Int}
theorem Clm.keep (h : Clm B w n L sv vs f) (hk : ∀ k, k < w.heap.size → L.Own sv k → w'.heap[k]? = w.heap[k]?) : Clm B w' n L sv vs f :=
  ⟨(hk _ (Hi.some_lt h.box) (Or.inl rfl)).trans h.box, h.st.keep fun k hk' e => hk k hk' (by rcases e with e | e <;> simp [CP.Own, e]), h.hp.keep fun k hk' e => hk k hk' (by rcases e with e | e | e <;> simp [CP.Own, e]), h.ap, h.nc, h.ns, h.np, h.up⟩
theorem Clm.below (h : Clm B w n L sv vs f) (hb : Below w.heap.size w w') : Clm B w' n L sv vs f := h.keep fun k hk _ => hb.block k hk
theorem Clm.stamped (h : Clm B w n L sv vs f) (hs : St.IsStamp w' L.sb L.pb n vs') (hf : St.Fr L.sb L.pb w w') : Clm B w' n L sv vs' f ∧ Fx L sv sv w w' := by
  have keep : ∀ k, k < w.heap.size → k ≠ L.sb → k ≠ L.pb → w'.heap[k]? = w.heap[k]? := hf.block
  refine ⟨⟨(keep _ (Hi.some_lt h.box) h.ap.cs h.ap.cp).trans h.box, hs, h.hp.keep fun k hk' e => keep k hk' ?_ ?_, h.ap, h.nc, h.ns, h.np, h.up⟩, hf.os, hf.tape, hf.output, hf.size, fun k hk hn => keep k hk (fun e => hn (Or.inr (Or.inl e))) (fun e => hn (Or.inr (Or.inr (Or.inl e)))), fun _ _ e => e⟩
  · rintro rfl
    rcases e with e | e | e
    · exact h.ap.sh e
    · exact h.ap.sw e
    · exact h.ns e
  · rintro rfl
    rcases e with e | e | e
    · exact h.ap.ph e
    · exact h.ap.pw e
    · exact h.np e
theorem Clm.heaped (h : Clm B w n L sv vs f) (hs : Hp.IsHeap w' L.hb L.wb n sv' f') (hf : Hp.Fr L.hb L.wb sv sv' w w') (hB : B ≤ w.heap.size) : Clm B w' n L sv' vs f' ∧ Fx L sv sv' w w' := by
  have hci := Hi.some_lt h.box
  obtain ⟨ls, lp, _⟩ := h.st.lt
  have keep : ∀ k, k < w.heap.size → k ≠ L.hb → k ≠ L.wb → sv.ownBlock ≠ some k → w'.heap[k]? = w.heap[k]? := fun k hk h1 h2 h3 => hf.block k hk h1 h2 (fun e => h3 e.symm)
  refine ⟨⟨(keep _ hci h.ap.ch h.ap.cw h.nc).trans h.box, h.st.keep fun k hk' e => ?_, hs, h.ap, fun e => h.nc (hf.own _ hci e), fun e => h.ns (hf.own _ ls e), fun e => h.np (hf.own _ lp e), fun k ho => ?_⟩, hf.os, hf.tape, hf.output, hf.size, fun k hk hn => keep k hk (fun e => hn (Or.inr (Or.inr (Or.inr (Or.inl e))))) (fun e => hn (Or.inr (Or.inr (Or.inr (Or.inr (Or.inl e)))))) (fun e => hn (Or.inr (Or.inr (Or.inr (Or.inr (Or.inr e)))))), hf.own⟩
  · rcases e with rfl | rfl
    · exact keep _ hk' h.ap.sh h.ap.sw h.ns
    · exact keep _ hk' h.ap.ph h.ap.pw h.np
  · rcases ho with o | o | o | o | o | o
    · exact h.up k (Or.inl o)
    · exact h.up k (Or.inr (Or.inl o))
    · exact h.up k (Or.inr (Or.inr (Or.inl o)))
    · exact h.up k (Or.inr (Or.inr (Or.inr (Or.inl o))))
    · exact h.up k (Or.inr (Or.inr (Or.inr (Or.inr (Or.inl o)))))
    · rcases Nat.lt_or_ge k w.heap.size with hk | hk
      · exact h.up k (Or.inr (Or.inr (Or.inr (Or.inr (Or.inr (hf.own k hk o))))))
      · omega
theorem Clm.cells (h : Clm B w n L sv vs f) : w.cell? ⟨L.ci, 0, none⟩ = some (.pointer (some ⟨L.sb, 0, none⟩)) ∧ w.cell? ⟨L.ci, 1, none⟩ = some (.pointer (some ⟨L.hb, 0, none⟩)) := by
  simp [World.cell?, h.box]
/-- a rank from r on that gets a length waits. -/
theorem waits_set {vs : List (Option Int)} {r x : Nat} {d : Int} (hx : x < vs.length) (hr : r ≤ x) : Hp.upd (waits vs r) x (some (x : Int)) = waits (vs.set x (some d)) r := by
  funext z
  unfold Hp.upd waits
  by_cases e : z = (x : Int)
  · subst e
    rw [if_pos rfl, Int.toNat_natCast, List.getElem?_set_self hx]
    simp
    omega
  · rw [if_neg e]
    by_cases hz : 0 ≤ z
    · rw [List.getElem?_set_ne (by omega)]
    · have g : ¬ (r : Int) ≤ z := by omega
      rcases h1 : vs[z.toNat]? with _ | _ | _ <;> rcases h2 : (vs.set x (some d))[z.toNat]? with _ | _ | _ <;> simp [g]
theorem waits_or {vs : List (Option Int)} {r x : Nat} : waits vs r (x : Int) = none ∨ waits vs r (x : Int) = some (x : Int) := by
  cases h : waits vs r (x : Int) with
  | none => exact Or.inl rfl
  | some k => exact Or.inr (by rw [(waits_some h).1])

set_option maxRecDepth 100000 in
set_option maxHeartbeats 4000000 in
theorem reach_calls (r x : Nat) (d : Int) (hx : x < n) (hr : r ≤ x) (h : Clm B w n L sv vs (waits vs r)) (hB : B ≤ w.heap.size) :
    Calls Tryz.prog 125 #[.pointer (some ⟨L.ci, 0, none⟩), .int .u32 (x : Int), .int .u64 d] w fun e w' => e = .returned (.tuple #[]) ∧ ∃ sv', Clm B w' n L sv' (relax vs x d) (waits (relax vs x d) r) ∧ Fx L sv sv' w w' := by
  have hlen : vs.length = n := h.st.lt.2.2.2.1
  have hn : n ≤ 65536 := h.st.lt.2.2.2.2
  obtain ⟨o, ho⟩ : ∃ o, vs[x]? = some o := ⟨vs[x]'(by omega), List.getElem?_eq_getElem (by omega)⟩
  have HG : Hid (Calls Tryz.prog 127 #[.pointer (some ⟨L.sb, 0, none⟩), .int .i64 (x : Int)] w fun e w' => e = .returned (St.gotV o) ∧ Below w.heap.size w w') := St.get_in h.st x o ho
  have HC : Hid (Clm B w n L sv vs (waits vs r)) := h
  have x1 : IntKind.i64.wrap (x : Int) = (x : Int) := by rw [IntKind.wrap_i64]; omega
  have x2 : IntKind.u64.wrap (x : Int) = (x : Int) := by rw [IntKind.wrap_u64]; omega
  have HR : Hid (∀ wx, Clm B wx n L sv vs (waits vs r) → B ≤ wx.heap.size → Calls Tryz.prog 130 #[.pointer (some ⟨L.sb, 0, none⟩), .int .i64 (x : Int), .int .u64 d] wx fun e w' => e = .returned .nilIface ∧ Clm B w' n L sv (vs.set x (some d)) (waits vs r) ∧ Fx L sv sv wx w') := fun wx hx' hB' => (St.set_calls hx'.st x hx d).mono (by
    rintro e w' ⟨rfl, a, b⟩
    obtain ⟨p, q⟩ := hx'.stamped a b
    exact ⟨rfl, p, q⟩)
  have HP : Hid (∀ wx, Clm B wx n L sv (vs.set x (some d)) (waits vs r) → B ≤ wx.heap.size → Calls Tryz.prog 131 #[.pointer (some ⟨L.hb, 0, none⟩), .int .u32 (x : Int), .int .u64 (x : Int)] wx fun e w' => e = .returned .nilIface ∧ ∃ sv', Clm B w' n L sv' (vs.set x (some d)) (waits (vs.set x (some d)) r) ∧ Fx L sv sv' wx w') := fun wx hx' hB' => (Hp.push_own hx'.hp x hx waits_or).mono (by
    rintro e w' ⟨rfl, sv', a, b⟩
    rw [waits_set (d := d) (by omega) hr] at a
    obtain ⟨p, q⟩ := hx'.heaped a b hB'
    exact ⟨rfl, sv', p, q⟩)
  have HB : Hid (B ≤ w.heap.size) := hB
  obtain ⟨c0, c1⟩ := h.cells
  clear h hB
  by_cases hbet : relax vs x d = vs.set x (some d) ∧ (o = none ∨ ∃ k, o = some k ∧ d < k)
  · obtain ⟨e1, e2⟩ := hbet
    have HE : Hid (relax vs x d = vs.set x (some d)) := e1
    clear e1
    have hgot : ∃ (kv : Int) (bb : Bool), St.gotV o = .tuple #[.int .u64 kv, .bool bb] ∧ (bb = false ∨ (bb = true ∧ d < kv)) := by
      rcases e2 with rfl | ⟨k, rfl, hk⟩
      · exact ⟨0, false, rfl, Or.inl rfl⟩
      · exact ⟨k, true, rfl, Or.inr ⟨rfl, hk⟩⟩
    obtain ⟨kv, bb, hgv, hcase⟩ := hgot
    rw [hgv] at HG
    clear e2 hgv ho
    go_enter Tryz.func125, Tryz.ntmps125
    go_wp2_with fail
    refine HG.out.mono ?_
    rintro e w1 ⟨rfl, hb1⟩
    have HC1 : Hid (Clm B w1 n L sv vs (waits vs r)) := HC.out.below hb1
    have HB1 : Hid (B ≤ w1.heap.size ∧ Fx L sv sv w w1) := ⟨Nat.le_trans HB.out hb1.size, Fx.of_below hb1⟩
    clear hb1 c0 c1
    obtain ⟨c0, c1⟩ := HC1.out.cells
    have tail : ∀ (_ : True), True := fun _ => trivial
    rcases hcase with rfl | ⟨rfl, hlt⟩
    all_goals
      go_wp2_with fail
      refine (HR.out w1 HC1.out HB1.out.1).mono ?_
      rintro e w2 ⟨rfl, hC2, hF2⟩
      have HC2 : Hid (Clm B w2 n L sv (vs.set x (some d)) (waits vs r)) := hC2
      have HB2 : Hid (B ≤ w2.heap.size ∧ Fx L sv sv w w2) := ⟨Nat.le_trans HB1.out.1 hF2.size, HB1.out.2.trans hF2⟩
      clear hC2 hF2 c0 c1
      obtain ⟨c0, c1⟩ := HC2.out.cells
      go_wp2_with fail
      refine (HP.out w2 HC2.out HB2.out.1).mono ?_
      rintro e w3 ⟨rfl, sv', hC3, hF3⟩
      have HC3 : Hid (Clm B w3 n L sv' (vs.set x (some d)) (waits (vs.set x (some d)) r) ∧ Fx L sv sv' w w3) := ⟨hC3, HB2.out.2.trans hF3⟩
      clear hC3 hF3 c0 c1
      go_wp2
      exact bodyPost_end (v := .tuple #[]) (by simp [results, Tryz.results125]) rfl ⟨rfl, sv', by rw [HE.out]; exact HC3.out.1, HC3.out.2⟩
  · have hno : ∃ k, o = some k ∧ ¬ d < k ∧ relax vs x d = vs := by
      unfold relax at hbet ⊢
      rw [ho] at hbet ⊢
      cases o with
      | none => simp at hbet
      | some k =>
        by_cases hk : d < k
        · simp [hk] at hbet
        · exact ⟨k, rfl, hk, by simp [hk]⟩
    obtain ⟨k, rfl, hk, e1⟩ := hno
    have HE : Hid (relax vs x d = vs) := e1
    have HG' : Hid (Calls Tryz.prog 127 #[.pointer (some ⟨L.sb, 0, none⟩), .int .i64 (x : Int)] w fun e w' => e = .returned (.tuple #[.int .u64 k, .bool true]) ∧ Below w.heap.size w w') := HG
    clear hbet e1 ho HG
    go_enter Tryz.func125, Tryz.ntmps125
    go_wp2_with fail
    refine HG'.out.mono ?_
    rintro e w1 ⟨rfl, hb1⟩
    have HC1 : Hid (Clm B w1 n L sv vs (waits vs r) ∧ Fx L sv sv w w1) := ⟨HC.out.below hb1, Fx.of_below hb1⟩
    clear hb1 c0 c1
    go_wp2
    exact bodyPost_end (v := .tuple #[]) (by simp [results, Tryz.results125]) rfl ⟨rfl, sv, by rw [HE.out]; exact HC1.out.1, HC1.out.2⟩
end Go.Proofs.YtodilocmfdeehaaGreatDoor.Cb

namespace Go.Proofs.YtodilocmfdeehaaGreatDoor.Cb
open Go.RowKit Go.Extern Go.Shelf Hi

attribute [local go_sem] Oper.semAt_some

theorem ls_cut {w : World} {lo so : Option Addr} {lc : Nat} {F : List Nat} {Ls : List Lk} {r : Nat} (hF : FOk F Ls.length) (hr : r + 1 < F.length) (hls : HasLs w (.slice lo Ls.length lc) Ls) (hso : nth F r < nth F (r + 1) → ∀ b off, lo = some ⟨b, off, none⟩ → so = some ⟨b, off + nth F r * 4, none⟩) :
    (rowL F Ls r).length = nth F (r + 1) - nth F r ∧ HasLs w (.slice so (nth F (r + 1) - nth F r) (lc - nth F r)) (rowL F Ls r) := by
  have h1 := hF.atmost (a := r + 1) hr
  have h2 := hF.le r hr
  have hcap := hls.cap
  have hl : (rowL F Ls r).length = nth F (r + 1) - nth F r := by
    unfold rowL
    rw [List.length_take, List.length_drop]
    omega
  refine ⟨hl, so, lc - nth F r, by rw [hl], by rw [hl]; omega, fun j l hj => ?_⟩
  have hjl := (List.getElem?_eq_some_iff.1 hj).1
  rw [hl] at hjl
  unfold rowL at hj
  rw [List.getElem?_take, if_pos hjl, List.getElem?_drop] at hj
  obtain ⟨hok, b, off, e1, hb, g0, g1, g2, g3⟩ := hls.at hj
  refine ⟨hok, b, off + nth F r * 4, hso (by omega) b off e1, hb, ?_, ?_, ?_, ?_⟩
  · rw [show off + nth F r * 4 + j * 4 = off + (nth F r + j) * 4 by omega]; exact g0
  · rw [show off + nth F r * 4 + j * 4 + 1 = off + (nth F r + j) * 4 + 1 by omega]; exact g1
  · rw [show off + nth F r * 4 + j * 4 + 2 = off + (nth F r + j) * 4 + 2 by omega]; exact g2
  · rw [show off + nth F r * 4 + j * 4 + 3 = off + (nth F r + j) * 4 + 3 by omega]; exact g3

set_option maxRecDepth 100000 in
set_option maxHeartbeats 4000000 in
theorem at_calls (fo lo : Option Addr) (fc lc : Nat) (F : List Nat) (Ls : List Lk) (r : Nat) (w : World) (hF : FOk F Ls.length) (hr : r + 1 < F.length) (hn : F.length ≤ 65537) (hfs : HasWs w (.slice fo F.length fc) F) (hls : HasLs w (.slice lo Ls.length lc) Ls) :
    Calls Tryz.prog 128 #[.agg #[.slice fo F.length fc, .slice lo Ls.length lc], .int .u32 (r : Int)] w fun e w' => ∃ so c, e = .returned (.slice so (rowL F Ls r).length c) ∧ (∀ wx, HasLs wx (.slice lo Ls.length lc) Ls → HasLs wx (.slice so (rowL F Ls r).length c) (rowL F Ls r)) ∧ Below w.heap.size w w' := by
  obtain ⟨fb, foff, e1, _, hc⟩ := hfs.cells (by omega)
  subst e1
  have sx := hfs.small r
  have sy := hfs.small (r + 1)
  have hxy := hF.le r hr
  have hyL := hF.atmost (a := r + 1) hr
  have hcapL := hls.cap
  obtain ⟨z, hz⟩ : ∃ z, w.heap.size = z := ⟨_, rfl⟩
  obtain ⟨W0, hW0⟩ : ∃ W0, w.alloc (.cells #[.slice (some ⟨fb, foff, none⟩) F.length fc, .slice lo Ls.length lc] 176) = W0 := ⟨_, rfl⟩
  have hB : Below w.heap.size w W0 := by rw [← hW0]; exact (Below.refl _ _).alloc (Nat.le_refl _) _
  have g1 : W0.heap[z]? = some (.cells #[.slice (some ⟨fb, foff, none⟩) F.length fc, .slice lo Ls.length lc] 176) := by rw [← hW0, ← hz]; exact heap_newW _ _
  have hfs0 := hfs.keep hB
  obtain ⟨fb', foff', e2, _, hc0⟩ := hfs0.cells (by omega)
  cases e2
  have ca := hc0 r (by omega)
  have cb := hc0 (r + 1) (by omega)
  obtain ⟨d0, d1⟩ : W0.cell? ⟨z, 0, none⟩ = some (.slice (some ⟨fb, foff, none⟩) F.length fc) ∧ W0.cell? ⟨z, 1, none⟩ = some (.slice lo Ls.length lc) := by simp [World.cell?, g1]
  obtain ⟨so, hso, hcut⟩ := cut_lks lo Ls.length lc (nth F r) (nth F (r + 1)) hxy (by omega)
  have HE : Hid (∀ wx, Below W0.heap.size W0 wx → (rowL F Ls r).length = nth F (r + 1) - nth F r ∧ (∀ wy, HasLs wy (.slice lo Ls.length lc) Ls → HasLs wy (.slice so (nth F (r + 1) - nth F r) (lc - nth F r)) (rowL F Ls r)) ∧ Below w.heap.size w wx) := fun wx hx => by
    have hb2 : Below w.heap.size w wx := hB.trans (hx.mono hB.size)
    have g := ls_cut hF hr (hls.keep hb2) hso
    exact ⟨g.1, fun wy hy => (ls_cut hF hr hy hso).2, hb2⟩
  have HW0 : Hid (w.alloc (.cells #[.slice (some ⟨fb, foff, none⟩) F.length fc, .slice lo Ls.length lc] 176) = W0) := hW0
  obtain ⟨N, hN⟩ : ∃ N, F.length = N := ⟨_, rfl⟩
  have r1 : (r : Int) < (N : Int) := by omega
  have r2 : (r : Int) + 1 < (N : Int) := by omega
  have x1 : IntKind.u32.wrap ((r : Int) + 1) = (r : Int) + 1 := by rw [IntKind.wrap_u32]; omega
  obtain ⟨x, hx⟩ : ∃ x, nth F r = x := ⟨_, rfl⟩
  obtain ⟨y, hy⟩ : ∃ y, nth F (r + 1) = y := ⟨_, rfl⟩
  rw [hx, hy] at hcut HE
  rw [hx] at ca
  rw [hy] at cb
  rw [hN] at d0 HW0
  rw [hN]
  clear hso hfs hls hF hB g1 hc hc0 hfs0 sx sy hxy hyL hcapL hx hy hN hW0
  go_enter Tryz.func128, Tryz.ntmps128
  go_upto_region 1 with fail
  rw [HW0.out]
  go_quiet (fail)
  go_wp2
  go_ret
  have hq : Below W0.heap.size W0 (W0.drewN nq) := ⟨rfl, rfl, rfl, Nat.le_refl _, fun _ _ => rfl⟩
  obtain ⟨a1, a2, a3⟩ := HE.out _ hq
  exact ⟨so, lc - x, by rw [a1]; rfl, by rw [a1]; exact a2, a3⟩

/-- the least rank that waits is taken out. -/
theorem waits_pop {vs : List (Option Int)} {r x : Nat} (hr : r ≤ x) (hn : ∀ y, r ≤ y → y < x → waits vs r (y : Int) = none) : Hp.upd (waits vs r) x none = waits vs (x + 1) := by
  funext z
  unfold Hp.upd
  by_cases e : z = (x : Int)
  · subst e
    rw [if_pos rfl]
    unfold waits
    rw [Int.toNat_natCast]
    split
    · rw [if_neg (by omega)]
    · rfl
  · rw [if_neg e]
    rcases Int.lt_or_le z (x : Int) with h1 | h1
    · have e1 : waits vs (x + 1) z = none := by
        unfold waits
        split
        · rw [if_neg (by omega)]
        · rfl
      rw [e1]
      rcases Int.lt_or_le z (r : Int) with h2 | h2
      · unfold waits
        split
        · rw [if_neg (by omega)]
        · rfl
      · obtain ⟨y, rfl⟩ : ∃ y : Nat, z = (y : Int) := ⟨z.toNat, by omega⟩
        exact hn y (by omega) (by omega)
    · unfold waits
      split
      · rw [if_pos (by omega), if_pos (by omega)]
      · rfl
theorem waits_unk {vs : List (Option Int)} {r y : Nat} (hr : r ≤ y) (h : waits vs r (y : Int) = none) : vs[y]? = some none ∨ vs[y]? = none := by
  rcases waits_none h with g | g
  · omega
  · exact g
variable {B : Nat} {w w' : World} {n : Nat} {L : CP} {sv sv' : Value} {vs vs' : List (Option Int)} {f f' : Int → Option Int}
/-- taken out, the least rank that waits; or none waits. -/
theorem pop_calls (r : Nat) (h : Clm B w n L sv vs (waits vs r)) (hB : B ≤ w.heap.size) :
    Calls Tryz.prog 126 #[.pointer (some ⟨L.hb, 0, none⟩)] w fun e w' => ∃ sv', Fx L sv sv' w w' ∧
      ((e = .returned (.tuple #[.int .u32 0, .int .u64 0, .bool false]) ∧ (∀ y, r ≤ y → y < n → vs[y]? = some none ∨ vs[y]? = none) ∧ Clm B w' n L sv' vs (waits vs r)) ∨
       (∃ x : Nat, e = .returned (.tuple #[.int .u32 (x : Int), .int .u64 (x : Int), .bool true]) ∧ r ≤ x ∧ x < n ∧ (∃ d, vs[x]? = some (some d)) ∧ (∀ y, r ≤ y → y < x → vs[y]? = some none ∨ vs[y]? = none) ∧ Clm B w' n L sv' vs (waits vs (x + 1)))) := by
  by_cases hall : ∀ d : Nat, d < n → waits vs r (d : Int) = none
  · refine (Hp.pop_none h.hp hall).mono ?_
    rintro e w' ⟨rfl, rfl⟩
    exact ⟨sv, Fx.of_below (Below.refl _ _), Or.inl ⟨rfl, fun y h1 h2 => waits_unk h1 (hall y h2), h⟩⟩
  · obtain ⟨d0, hd0, hf⟩ : ∃ d0 : Nat, d0 < n ∧ waits vs r (d0 : Int) ≠ none := by
      by_cases hex : ∃ d0 : Nat, d0 < n ∧ waits vs r (d0 : Int) ≠ none
      · exact hex
      · exact absurd (fun d hd => by
          by_cases e : waits vs r (d : Int) = none
          · exact e
          · exact absurd ⟨d, hd, e⟩ hex) hall
    refine (Hp.pop_some h.hp d0 hd0 hf).mono ?_
    rintro e w' ⟨x, k, rfl, ⟨hx, hfx, hleast⟩, sv', hH, hF⟩
    obtain ⟨rfl, hrx, d, hd⟩ := waits_some hfx
    have hlow : ∀ y, r ≤ y → y < x → waits vs r (y : Int) = none := fun y h1 h2 => by
      cases e : waits vs r (y : Int) with
      | none => rfl
      | some j =>
        obtain ⟨rfl, _, _⟩ := waits_some e
        have := hleast y _ (by omega) e
        unfold Hp.ltT at this
        simp at this
        omega
    rw [waits_pop hrx hlow] at hH
    obtain ⟨p, q⟩ := h.heaped hH hF hB
    exact ⟨sv', q, Or.inr ⟨x, rfl, hrx, hx, ⟨d, hd⟩, fun y h1 h2 => waits_unk h1 (hlow y h1 h2), p⟩⟩

/-- what is seen, in cells. -/
def snv (l : List (Nat × Int × Bool)) : List Value := l.flatMap fun x => [.int .i64 (x.1 : Int), .int .u64 x.2.1, .bool x.2.2]
theorem snv_append (l r : List (Nat × Int × Bool)) : snv (l ++ r) = snv l ++ snv r := by simp [snv]
theorem snv_one (l : List (Nat × Int × Bool)) : ∀ u ∈ snv l, u.oneCell' = true := by
  intro u hu
  unfold snv at hu
  obtain ⟨x, _, hx⟩ := List.mem_flatMap.1 hu
  simp at hx
  rcases hx with rfl | rfl | rfl <;> rfl
theorem infoSn : (Tryz.prog.info? 178).map (fun i => (i.zero, i.size, i.bytes)) = some (some (.agg #[.int .i64 0, .int .u64 0, .bool false]), 3, 24) := by kernel_rfl
/-- a block of another kind is none of the climber's. -/
theorem Clm.off (h : Clm B w n L sv vs f) {k : Nat} {c : Array Value} {T : TypeId} (hk : w.heap[k]? = some (.cells c T)) (hT : T = 178 ∨ T = 176 ∨ T = 65 ∨ T = 25) : ¬ L.Own sv k := by
  obtain ⟨age, held, ps, hm, _⟩ := h.st
  obtain ⟨ps', wh, hm', _⟩ := h.hp
  rintro (rfl | rfl | rfl | rfl | rfl | o)
  · rw [h.box] at hk; cases hk; revert hT; decide
  · rw [hm.box] at hk; cases hk; revert hT; decide
  · rw [hm.row] at hk; cases hk; revert hT; decide
  · rw [hm'.box] at hk; cases hk; revert hT; decide
  · rw [hm'.whr] at hk; cases hk; revert hT; decide
  · rcases hm'.row.2 with ⟨e, _⟩ | ⟨g, cap, cur, e, _, hh, _⟩
    · rw [e] at o; cases o
    · rw [e] at o
      simp [Value.ownBlock] at o
      subst o
      rw [hh] at hk; cases hk; revert hT; decide
theorem Clm.offRow (h : Clm B w n L sv vs f) {B' m : Nat} {ov : Value} {xs : List Value} (ho : w.ownsRow B' 178 3 ov m xs) : ∀ k, ov.ownBlock = some k → ¬ L.Own sv k := by
  intro k e
  rcases ho.2 with ⟨e1, _⟩ | ⟨g, cap, cur, e1, _, hh, _⟩
  · rw [e1] at e; cases e
  · rw [e1] at e
    simp [Value.ownBlock] at e
    subst e
    exact h.off hh (Or.inl rfl)
/-- what a climber's calls leave of a list, and of a box. -/
theorem Fx.row (h : Clm B w n L sv vs f) (g : Fx L sv sv' w w') {B' m : Nat} {ov : Value} {xs : List Value} (ho : w.ownsRow B' 178 3 ov m xs) : w'.ownsRow B' 178 3 ov m xs :=
  own_keep ho fun k _ e hh => (g.block k (some_lt hh) (h.offRow ho k e)).trans hh
theorem Fx.box (h : Clm B w n L sv vs f) (g : Fx L sv sv' w w') {k : Nat} {c : Array Value} (hk : w.heap[k]? = some (.cells c 176)) : w'.heap[k]? = some (.cells c 176) :=
  (g.block k (some_lt hk) (h.off hk (Or.inr (Or.inl rfl)))).trans hk
/-- a list grows: the climber stays. -/
theorem Clm.grown (h : Clm B w n L sv vs f) {B' m : Nat} {ov : Value} {xs : List Value} (ho : w.ownsRow B' 178 3 ov m xs) (hg : w.grownBy w' ov.ownBlock) : Clm B w' n L sv vs f :=
  h.keep fun k hk ho' => hg.block k hk (fun e => h.offRow ho k e.symm ho')
end Go.Proofs.YtodilocmfdeehaaGreatDoor.Cb

namespace Go.Proofs.YtodilocmfdeehaaGreatDoor.Cb
open Go.RowKit Go.Extern Go.Shelf Hi

attribute [local go_sem] Oper.semAt_some

def nos (x : Nat × Int) : Nat × Int × Bool := (x.1, x.2, false)
theorem waits_empty (n r : Nat) : waits (List.replicate n none) r = fun _ => none := by
  funext z
  unfold waits
  split
  · rename_i d hd
    rw [List.getElem?_replicate] at hd
    split at hd <;> simp at hd
  · rfl
theorem relax_start {n s : Nat} (hs : s < n) : relax (List.replicate n none) s 0 = start n s := by
  unfold relax start
  rw [List.getElem?_replicate, if_pos hs]
theorem low_start (n s : Nat) : Low (start n s) := by
  intro x k hk
  unfold start at hk
  by_cases e : s = x
  · subst e
    have hlt := (List.getElem?_eq_some_iff.1 hk).1
    rw [List.getElem?_set_self (by simpa using hlt)] at hk
    obtain rfl : 0 = k := by simpa using hk
    exact ⟨Int.le_refl _, by omega⟩
  · rw [List.getElem?_set_ne e, List.getElem?_replicate] at hk
    split at hk <;> simp at hk
/-- while reached goes on: x is the rank that was taken out, if bb. -/
structure LI (row : Nat → List Lk) (B : Nat) (w : World) (n s : Nat) (L : CP) (z : Nat) (cs : Array Value) (x : Nat) (bb : Bool) (vs : List (Option Int)) (out : List (Nat × Int)) (sv ov : Value) (wr : World) : Prop where
  clm : ∃ r, Clm B wr n L sv vs (waits vs r) ∧ (bb = true → r = x + 1)
  own : wr.ownsRow B 178 3 ov out.length (snv (out.map nos))
  box : wr.heap[z]? = some (.cells cs 176)
  bel : Below B w wr
  low : Low vs
  ran : run row n 0 (start n s) [] = if bb = true then run row (n - x) x vs out else (vs, out)
  hit : bb = true → x < n ∧ out.length ≤ x ∧ ∃ d, vs[x]? = some (some d)
variable {row : Nat → List Lk} {B : Nat} {w wr : World} {n s : Nat} {L : CP} {z : Nat} {cs : Array Value} {vs : List (Option Int)} {out : List (Nat × Int)} {sv ov : Value}
theorem popL_calls (r : Nat) (hc : Clm B wr n L sv vs (waits vs r)) (hB : B ≤ w.heap.size) (ho : wr.ownsRow B 178 3 ov out.length (snv (out.map nos))) (hz : wr.heap[z]? = some (.cells cs 176)) (hb : Below B w wr) (hl : Low vs) (hr : r ≤ n) (hol : out.length ≤ r) (hran : run row n 0 (start n s) [] = run row (n - r) r vs out) :
    Calls Tryz.prog 126 #[.pointer (some ⟨L.hb, 0, none⟩)] wr fun e w' => ∃ (x : Nat) (kv : Int) (bb : Bool) (sv' : Value), e = .returned (.tuple #[.int .u32 (x : Int), .int .u64 kv, .bool bb]) ∧ LI row B w n s L z cs x bb vs out sv' ov w' ∧ (bb = true → r ≤ x) := by
  have hB' : B ≤ wr.heap.size := Nat.le_trans hB hb.size
  refine (pop_calls r hc hB').mono ?_
  rintro e w' ⟨sv', hF, hh⟩
  have o' := hF.row hc ho
  have z' := hF.box hc hz
  have b' : Below B w w' := hb.trans (hF.below hc hB')
  rcases hh with ⟨rfl, hn, hC⟩ | ⟨x, rfl, hrx, hx, ⟨d, hd⟩, hn, hC⟩
  · refine ⟨0, 0, false, sv', rfl, ⟨⟨r, hC, fun e => by cases e⟩, o', z', b', hl, ?_, fun e => by cases e⟩, fun e => by cases e⟩
    rw [hran, run_end row hr hn]
    rfl
  · refine ⟨x, x, true, sv', rfl, ⟨⟨x + 1, hC, fun _ => rfl⟩, o', z', b', hl, ?_, fun _ => ⟨hx, by omega, d, hd⟩⟩, fun _ => hrx⟩
    rw [hran, run_skip row (x - r) (n - r) r (by omega) (fun y h1 h2 => hn y h1 (by omega)), if_pos rfl]
    congr 1 <;> omega
/-- while the links of a rank are gone through. -/
structure IL (B : Nat) (w : World) (n : Nat) (L : CP) (z : Nat) (cs : Array Value) (x : Nat) (vs : List (Option Int)) (out : List (Nat × Int)) (ov : Value) (wr : World) : Prop where
  clm : ∃ sv, Clm B wr n L sv vs (waits vs (x + 1))
  own : wr.ownsRow B 178 3 ov out.length (snv (out.map nos))
  box : wr.heap[z]? = some (.cells cs 176)
  bel : Below B w wr
  low : Low vs
theorem IL.below {x : Nat} {wn : World} (h : IL B w n L z cs x vs out ov wr) (hb : Below wr.heap.size wr wn) (hB : B ≤ wr.heap.size) : IL B w n L z cs x vs out ov wn := by
  obtain ⟨sv, hc⟩ := h.clm
  exact ⟨⟨sv, hc.below hb⟩, own_keep h.own fun k _ _ hh => (hb.block k (some_lt hh)).trans hh, (hb.block _ (some_lt h.box)).trans h.box, h.bel.trans (hb.mono hB), h.low⟩
theorem reachL_calls (x y : Nat) (d : Int) (hy : x + 1 ≤ y) (hyn : y < n) (hd : 0 ≤ d ∧ d ≤ (y : Int) * 140737488355328) (h : IL B w n L z cs x vs out ov wr) (hB : B ≤ w.heap.size) :
    Calls Tryz.prog 125 #[.pointer (some ⟨L.ci, 0, none⟩), .int .u32 (y : Int), .int .u64 d] wr fun e w' => e = .returned (.tuple #[]) ∧ IL B w n L z cs x (relax vs y d) out ov w' := by
  have hB' : B ≤ wr.heap.size := Nat.le_trans hB h.bel.size
  obtain ⟨sv, hc⟩ := h.clm
  refine (reach_calls (x + 1) y d hyn hy hc hB').mono ?_
  rintro e w' ⟨rfl, sv', hC, hF⟩
  exact ⟨rfl, ⟨sv', hC⟩, hF.row hc h.own, hF.box hc h.box, h.bel.trans (hF.below hc hB'), low_relax h.low hd⟩

theorem il_grown {x : Nat} {d : Int} {w3 w5 : World} {v5 : Value} (h : IL B w n L z cs x vs out ov w3) (hB : B ≤ w3.heap.size) (ho : w5.ownsRow B 178 3 v5 (out.length + 1) (snv (out.map nos) ++ snv [(x, d, false)])) (hg : (w3.alloc (.cells (snv [(x, d, false)]).toArray 178)).grownBy w5 ov.ownBlock) : IL B w n L z cs x vs (out ++ [(x, d)]) v5 w5 := by
  obtain ⟨sv, hc⟩ := h.clm
  have hb : Below w3.heap.size w3 (w3.alloc (.cells (snv [(x, d, false)]).toArray 178)) := (Below.refl _ _).alloc (Nat.le_refl _) _
  have h' := h.below hb hB
  obtain ⟨sv', hc'⟩ := h'.clm
  refine ⟨⟨sv', hc'.grown h'.own hg⟩, ?_, ?_, ?_, h.low⟩
  · have e : snv (out.map nos) ++ snv [(x, d, false)] = snv ((out ++ [(x, d)]).map nos) := by rw [List.map_append, snv_append]; rfl
    rw [e] at ho
    rw [List.length_append]
    exact ho
  · refine (hg.block z (some_lt h'.box) (fun e => ?_)).trans h'.box
    rcases h'.own.2 with ⟨e1, _⟩ | ⟨g, cap, cur, e1, _, hh, _⟩
    · rw [e1] at e; cases e
    · rw [e1] at e
      simp [Value.ownBlock] at e
      subst e
      have := h'.box
      rw [hh] at this
      simp at this
  · exact below_grown h'.bel h'.own hg (Nat.le_trans hB hb.size)
theorem il_own {x : Nat} {d : Int} {wr : World} {v : Value} (h : IL B w n L z cs x vs (out ++ [(x, d)]) v wr) : wr.ownsRow B 178 3 v (out.length + 1) (snv ((out ++ [(x, d)]).map nos)) := by
  have := h.own
  rw [List.length_append] at this
  exact this

theorem il_box {x : Nat} {wr : World} {v a0 a1 : Value} (h : IL B w n L z #[a0, a1] x vs out v wr) : wr.cell? ⟨z, 0, none⟩ = some a0 ∧ wr.cell? ⟨z, 1, none⟩ = some a1 := by simp [World.cell?, h.box]

set_option maxRecDepth 100000 in
set_option maxHeartbeats 4000000 in
theorem reached_calls (fo lo : Option Addr) (fc lc : Nat) (F : List Nat) (Ls : List Lk) (h : Clm B w n L sv (List.replicate n none) (fun _ => none)) (hB : B ≤ w.heap.size) (hs : s < n) (hn : n ≤ 65536) (hF : FOk F Ls.length) (hFn : F.length = n + 1) (hLs : Ls.length ≤ 1048576) (hM : ∀ wx, Below B w wx → HasWs wx (.slice fo F.length fc) F ∧ HasLs wx (.slice lo Ls.length lc) Ls) (hrow : ∀ r, r < n → ∀ l ∈ rowL F Ls r, r < l.hd ∧ l.hd < n ∧ l.wt ≤ 140737488355328) :
    Calls Tryz.prog 112 #[.pointer (some ⟨L.ci, 0, none⟩), .int .u32 (s : Int), .agg #[.slice fo F.length fc, .slice lo Ls.length lc]] w fun e w' => ∃ (sv' : Value) (mo : Option Addr) (mc r : Nat) (vs : List (Option Int)) (out : List (Nat × Int)), run (rowL F Ls) n 0 (start n s) [] = (vs, out) ∧ e = .returned (.slice mo out.length mc) ∧ Clm B w' n L sv' vs (waits vs r) ∧ w'.ownsRow B 178 3 (.slice mo out.length mc) out.length (snv (out.map nos)) ∧ Below B w w' ∧ Low vs := by
  obtain ⟨i0, hi9, hzz⟩ := Option.map_eq_some_iff.1 infoSn
  simp only [Prod.mk.injEq] at hzz
  have HI : Hid (Tryz.prog.info? 178 = some i0 ∧ i0.zero = some (.agg #[.int .i64 0, .int .u64 0, .bool false]) ∧ i0.size = 3 ∧ i0.bytes = 24) := ⟨hi9, hzz⟩
  obtain ⟨z, hz⟩ : ∃ z, w.heap.size = z := ⟨_, rfl⟩
  obtain ⟨W0, hW0⟩ : ∃ W0, w.alloc (.cells #[.slice fo F.length fc, .slice lo Ls.length lc] 176) = W0 := ⟨_, rfl⟩
  have hb0 : Below w.heap.size w W0 := by rw [← hW0]; exact (Below.refl _ _).alloc (Nat.le_refl _) _
  have g1 : W0.heap[z]? = some (.cells #[.slice fo F.length fc, .slice lo Ls.length lc] 176) := by rw [← hW0, ← hz]; exact heap_newW _ _
  have hC0 : Clm B W0 n L sv (List.replicate n none) (waits (List.replicate n none) 0) := by rw [waits_empty]; exact h.below hb0
  have HR0 : Hid (Calls Tryz.prog 125 #[.pointer (some ⟨L.ci, 0, none⟩), .int .u32 (s : Int), .int .u64 0] W0 fun e w' => e = .returned (.tuple #[]) ∧ ∃ sv', Clm B w' n L sv' (start n s) (waits (start n s) 0) ∧ Below B w w' ∧ w'.heap[z]? = some (.cells #[.slice fo F.length fc, .slice lo Ls.length lc] 176)) := by
    have g := reach_calls 0 s 0 hs (Nat.zero_le _) hC0 (Nat.le_trans hB hb0.size)
    rw [relax_start hs] at g
    refine g.mono ?_
    rintro e w' ⟨rfl, sv', a, b⟩
    exact ⟨rfl, sv', a, (hb0.mono hB).trans (b.below hC0 (Nat.le_trans hB hb0.size)), b.box hC0 g1⟩
  have HM : Hid (∀ wx, Below B w wx → HasWs wx (.slice fo F.length fc) F ∧ HasLs wx (.slice lo Ls.length lc) Ls) := hM
  have HF : Hid (FOk F Ls.length ∧ F.length = n + 1 ∧ Ls.length ≤ 1048576) := ⟨hF, hFn, hLs⟩
  have HRW : Hid (∀ r, r < n → ∀ l ∈ rowL F Ls r, r < l.hd ∧ l.hd < n ∧ l.wt ≤ 140737488355328) := hrow
  have HB : Hid (B ≤ w.heap.size) := hB
  have HW0 : Hid (w.alloc (.cells #[.slice fo F.length fc, .slice lo Ls.length lc] 176) = W0) := hW0
  have HPOP : Hid (∀ (wr : World) (r : Nat) (sv ov : Value) (vs : List (Option Int)) (out : List (Nat × Int)), Clm B wr n L sv vs (waits vs r) → wr.ownsRow B 178 3 ov out.length (snv (out.map nos)) → wr.heap[z]? = some (.cells #[.slice fo F.length fc, .slice lo Ls.length lc] 176) → Below B w wr → Low vs → r ≤ n → out.length ≤ r → run (rowL F Ls) n 0 (start n s) [] = run (rowL F Ls) (n - r) r vs out → Calls Tryz.prog 126 #[.pointer (some ⟨L.hb, 0, none⟩)] wr fun e w' => ∃ (x : Nat) (kv : Int) (bb : Bool) (sv' : Value), e = .returned (.tuple #[.int .u32 (x : Int), .int .u64 kv, .bool bb]) ∧ LI (rowL F Ls) B w n s L z #[.slice fo F.length fc, .slice lo Ls.length lc] x bb vs out sv' ov w' ∧ (bb = true → r ≤ x)) := fun wr r sv ov vs out a b c d e f g i => popL_calls r a hB b c d e f g i
  obtain ⟨c0, c1⟩ := hC0.cells
  clear hi9 hzz h hb0 g1 hC0 hM hF hFn hLs hrow hB hW0
  go_enter Tryz.func112, Tryz.ntmps112
  go_wp2_with fail
  rw [HW0.out]
  refine HR0.out.mono ?_
  rintro e w1 ⟨rfl, sv1, hC1, hb1, hz1⟩
  have H1 : Hid (Clm B w1 n L sv1 (start n s) (waits (start n s) 0) ∧ Below B w w1 ∧ w1.heap[z]? = some (.cells #[.slice fo F.length fc, .slice lo Ls.length lc] 176)) := ⟨hC1, hb1, hz1⟩
  clear c0 c1 hb1 hz1
  obtain ⟨c0, c1⟩ := hC1.cells
  clear hC1
  go_wp2_with fail
  refine (HPOP.out w1 0 sv1 (.slice none 0 0) (start n s) [] H1.out.1 (World.ownsRow_nil _ _ _ _) H1.out.2.2 H1.out.2.1 (low_start n s) (Nat.zero_le _) (Nat.zero_le _) rfl).mono ?_
  rintro e w2 ⟨x, kv, bb, sv2, rfl, hL2, _⟩
  have HL2 : Hid (LI (rowL F Ls) B w n s L z #[.slice fo F.length fc, .slice lo Ls.length lc] x bb (start n s) [] sv2 (.slice none 0 0) w2) := hL2
  clear hL2 c0 c1
  go_wp2_with fail
  go_loopw [7, 8, 10] (fun ov rv bv wr => ∃ (x : Nat) (bb : Bool) (vs : List (Option Int)) (out : List (Nat × Int)) (so : Option Addr) (sc : Nat), ov = .slice so out.length sc ∧ rv = .int .u32 (x : Int) ∧ bv = .bool bb ∧ Hid (∃ sv, LI (rowL F Ls) B w n s L z #[.slice fo F.length fc, .slice lo Ls.length lc] x bb vs out sv (.slice so out.length sc) wr)) (fun _ rv bv _ => match bv with | .bool true => n + 1 - (intOf rv).toNat | _ => 0)
  case atStart => exact ⟨x, bb, start n s, [], none, 0, rfl, rfl, rfl, sv2, HL2.out⟩
  case round =>
    obtain ⟨x, bb, vs, out, so, sc, rfl, rfl, rfl, HL⟩ := hrel
    cases bb with
    | false =>
      go_wp2
      go_ret
      obtain ⟨sv3, hL⟩ := HL.out
      obtain ⟨r, hC, _⟩ := hL.clm
      have hr := hL.ran
      simp only [Bool.false_eq_true, if_false] at hr
      exact ⟨sv3, so, sc, r, vs, out, hr, rfl, hC, hL.own, hL.bel, hL.low⟩
    | true =>
      obtain ⟨sv3, hL⟩ := HL.out
      obtain ⟨r, hC, hr⟩ := hL.clm
      have hr' := hr rfl
      subst hr'
      obtain ⟨hxn, hol, d, hd⟩ := hL.hit rfl
      have hlow := hL.low x d hd
      have HRAN : Hid (run (rowL F Ls) n 0 (start n s) [] = run (rowL F Ls) (n - (x + 1)) (x + 1) (relaxs d (rowL F Ls x) vs) (out ++ [(x, d)])) := by
        have g := hL.ran
        rw [if_pos rfl, run_take (rowL F Ls) (Nat.le_refl x) hxn hd (fun y h1 h2 => by omega)] at g
        exact g
      have HG : Hid (Calls Tryz.prog 127 #[.pointer (some ⟨L.sb, 0, none⟩), .int .i64 (x : Int)] wr fun e w' => e = .returned (.tuple #[.int .u64 d, .bool true]) ∧ Below wr.heap.size wr w') := St.get_in hC.st x (some d) hd
      have HIL : Hid (IL B w n L z #[.slice fo F.length fc, .slice lo Ls.length lc] x vs out (.slice so out.length sc) wr) := ⟨⟨sv3, hC⟩, hL.own, hL.box, hL.bel, hL.low⟩
      have x1 : IntKind.i64.wrap (x : Int) = (x : Int) := by rw [IntKind.wrap_i64]; omega
      obtain ⟨c0, c1⟩ := hC.cells
      clear hL hC hr hd HL
      go_wp2_with fail
      refine HG.out.mono ?_
      rintro e w3 ⟨rfl, hb3⟩
      have HI3 : Hid (IL B w n L z #[.slice fo F.length fc, .slice lo Ls.length lc] x vs out (.slice so out.length sc) w3) := HIL.out.below hb3 (Nat.le_trans HB.out HIL.out.bel.size)
      have HB3 : Hid (B ≤ w3.heap.size) := Nat.le_trans HB.out HI3.out.bel.size
      clear hb3 c0 c1
      go_wp2_with (first
        | (at_builtin; refine wpList_append_own _ rfl _ _ 131 rfl B 178 i0 (.agg #[.int .i64 0, .int .u64 0, .bool false]) 3 24 Tryz.underlying131 HI.out.1 HI.out.2.1 HI.out.2.2.1 HI.out.2.2.2 rfl (by decide) _ out.length (snv (out.map nos)) rfl (HI3.out.own.alloc _) ⟨w3.heap.size, 0, none⟩ 1 1 (snv [(x, d, false)]) rfl rfl (new_cells w3 (snv [(x, d, false)]) 178) (snv_one _) (by unfold maxLen; omega) (by omega) (by have := HB3.out; simp; omega) ?_; intro v5 w5 hown5 hgr5 _; have H5 : Hid (IL B w n L z #[.slice fo F.length fc, .slice lo Ls.length lc] x vs (out ++ [(x, d)]) v5 w5) := il_grown HI3.out HB3.out hown5 hgr5; clear hown5 hgr5; obtain ⟨po, pc, hv5⟩ := own_slice (il_own H5.out); subst hv5; obtain ⟨d0, d1⟩ := il_box H5.out)
        | fail)
      have HAT : Hid (Calls Tryz.prog 128 #[.agg #[.slice fo F.length fc, .slice lo Ls.length lc], .int .u32 (x : Int)] w5 fun e w' => ∃ so c, e = .returned (.slice so (rowL F Ls x).length c) ∧ (∀ wx, HasLs wx (.slice lo Ls.length lc) Ls → HasLs wx (.slice so (rowL F Ls x).length c) (rowL F Ls x)) ∧ Below w5.heap.size w5 w') := at_calls fo lo fc lc F Ls x w5 HF.out.1 (by have := HF.out.2.1; omega) (by have := HF.out.2.1; omega) (HM.out w5 H5.out.bel).1 (HM.out w5 H5.out.bel).2
      refine HAT.out.mono ?_
      rintro e w6 ⟨ro, rc, rfl, hX, hb6⟩
      have HX : Hid (∀ wx, HasLs wx (.slice lo Ls.length lc) Ls → HasLs wx (.slice ro (rowL F Ls x).length rc) (rowL F Ls x)) := hX
      have HI6 : Hid (IL B w n L z #[.slice fo F.length fc, .slice lo Ls.length lc] x (relaxs d ((rowL F Ls x).take 0) vs) (out ++ [(x, d)]) (.slice po (out.length + 1) pc) w6) := H5.out.below hb6 (Nat.le_trans HB.out H5.out.bel.size)
      have HLL : Hid (∀ (j : Nat) (l : Lk), (rowL F Ls x)[j]? = some l → x < l.hd ∧ l.hd < n ∧ l.wt ≤ 140737488355328) := fun j l hj => HRW.out x hxn l (List.mem_of_getElem? hj)
      have hm9 : (rowL F Ls x).length ≤ 1048576 := by
        have := HF.out.2.2
        have h2 : (rowL F Ls x).length ≤ Ls.length := by unfold rowL; rw [List.length_take, List.length_drop]; omega
        omega
      clear hX hb6 d0 d1
      obtain ⟨Rw, hRw⟩ : ∃ Rw, rowL F Ls x = Rw := ⟨_, rfl⟩
      rw [hRw] at HX HI6 HLL hm9 HRAN ⊢
      clear hRw HAT HG HIL HI3 H5
      go_wp2_with fail
      go_loopw [58] (fun iv wr => ∃ j : Nat, j ≤ Rw.length ∧ iv = .int .i64 j ∧ Hid (IL B w n L z #[.slice fo F.length fc, .slice lo Ls.length lc] x (relaxs d (Rw.take j) vs) (out ++ [(x, d)]) (.slice po (out.length + 1) pc) wr)) (fun iv _ => Rw.length - (intOf iv).toNat)
      case atStart => exact ⟨0, Nat.zero_le _, rfl, HI6.out⟩
      case round =>
        obtain ⟨j, hj, rfl, HJ⟩ := hrel
        rcases Nat.lt_or_eq_of_le hj with h1 | h1
        · obtain ⟨l, hl⟩ : ∃ l, Rw[j]? = some l := ⟨Rw[j], List.getElem?_eq_getElem h1⟩
          obtain ⟨q1, q2, q3⟩ := HLL.out j l hl
          obtain ⟨_, b, off, e1, _, g0, g1, g2, g3⟩ := (HX.out wr (HM.out wr HJ.out.bel).2).at hl
          subst e1
          have HT : Hid (relaxs d (Rw.take (j + 1)) vs = relax (relaxs d (Rw.take j) vs) l.hd (d + l.wt)) := by
            show _ = _
            rw [List.take_add_one, hl]
            unfold relaxs
            rw [List.foldl_append]
            rfl
          have i1 : (j : Int) < (Rw.length : Int) := by omega
          have i2 : (0 : Int) ≤ (j : Int) := by omega
          have i3 : IntKind.u64.wrap (d + (l.wt : Int)) = d + (l.wt : Int) := by rw [IntKind.wrap_u64]; omega
          have HRE : Hid (∀ wx, Below wr.heap.size wr wx → Calls Tryz.prog 125 #[.pointer (some ⟨L.ci, 0, none⟩), .int .u32 (l.hd : Int), .int .u64 (d + (l.wt : Int))] wx fun e w' => e = .returned (.tuple #[]) ∧ IL B w n L z #[.slice fo F.length fc, .slice lo Ls.length lc] x (relax (relaxs d (Rw.take j) vs) l.hd (d + l.wt)) (out ++ [(x, d)]) (.slice po (out.length + 1) pc) w') := fun wx hx => reachL_calls x l.hd (d + l.wt) q1 q2 (by omega) (HJ.out.below hx (Nat.le_trans HB.out HJ.out.bel.size)) HB.out
          clear hl
          go_wp2_with fail
          refine (HRE.out _ ((Below.refl _ _).alloc (Nat.le_refl _) _)).mono ?_
          rintro e w7 ⟨rfl, hI7⟩
          have HI7 : Hid (IL B w n L z #[.slice fo F.length fc, .slice lo Ls.length lc] x (relaxs d (Rw.take (j + 1)) vs) (out ++ [(x, d)]) (.slice po (out.length + 1) pc) w7) := by show IL _ _ _ _ _ _ _ _ _ _ _; rw [HT.out]; exact hI7
          clear hI7 g0 g1 g2 g3
          go_wp2
          go_roundw
          case rel => exact ⟨j + 1, by omega, by go_num, HI7.out⟩
          case measure => simp [intOf]; omega
        · subst h1
          have HJ2 : Hid (IL B w n L z #[.slice fo F.length fc, .slice lo Ls.length lc] x (relaxs d Rw vs) (out ++ [(x, d)]) (.slice po (out.length + 1) pc) wr) := by have g := HJ.out; rw [List.take_length] at g; exact g
          have hcl : ∃ sv, Clm B wr n L sv (relaxs d Rw vs) (waits (relaxs d Rw vs) (x + 1)) := HJ2.out.clm
          obtain ⟨sv7, hC7⟩ := hcl
          obtain ⟨c0, c1⟩ := hC7.cells
          have hlen : (out ++ [(x, d)]).length = out.length + 1 := by rw [List.length_append]; rfl
          have HPP : Hid (Calls Tryz.prog 126 #[.pointer (some ⟨L.hb, 0, none⟩)] wr fun e w' => ∃ (x' : Nat) (kv : Int) (bb : Bool) (sv' : Value), e = .returned (.tuple #[.int .u32 (x' : Int), .int .u64 kv, .bool bb]) ∧ LI (rowL F Ls) B w n s L z #[.slice fo F.length fc, .slice lo Ls.length lc] x' bb (relaxs d Rw vs) (out ++ [(x, d)]) sv' (.slice po (out.length + 1) pc) w' ∧ (bb = true → x + 1 ≤ x')) := by
            have g := HPOP.out wr (x + 1) sv7 (.slice po (out.length + 1) pc) (relaxs d Rw vs) (out ++ [(x, d)]) hC7 HJ2.out.own HJ2.out.box HJ2.out.bel HJ2.out.low (by omega) (by rw [hlen]; omega) HRAN.out
            exact g
          clear hC7
          go_wp2_with fail
          refine HPP.out.mono ?_
          rintro e w8 ⟨x8, kv8, b8, sv8, rfl, hL8, hx8⟩
          have HL8 : Hid (LI (rowL F Ls) B w n s L z #[.slice fo F.length fc, .slice lo Ls.length lc] x8 b8 (relaxs d Rw vs) (out ++ [(x, d)]) sv8 (.slice po (out.length + 1) pc) w8) := hL8
          clear hL8 c0 c1
          go_wp2
          go_roundw
          case rel => exact ⟨x8, b8, relaxs d Rw vs, out ++ [(x, d)], po, pc, by rw [hlen], rfl, rfl, sv8, by rw [hlen]; exact HL8.out⟩
          case measure =>
            cases b8
            · simp [intOf]; omega
            · have := hx8 rfl
              have := (HL8.out.hit rfl).1
              simp [intOf]
              omega
end Go.Proofs.YtodilocmfdeehaaGreatDoor.Cb

namespace Go.Proofs.YtodilocmfdeehaaGreatDoor.Cb
open Go.RowKit Go.Extern Go.Shelf Hi

attribute [local go_sem] Oper.semAt_some

theorem run_out (row : Nat → List Lk) : ∀ (m r : Nat) (vs : List (Option Int)) (out : List (Nat × Int)), ∀ x ∈ (run row m r vs out).2, x ∈ out ∨ x.1 < r + m
  | 0, r, vs, out, x, hx => Or.inl hx
  | m + 1, r, vs, out, x, hx => by
    rw [run] at hx
    split at hx
    · rcases run_out row m (r + 1) _ _ x hx with h | h
      · rcases List.mem_append.1 h with h | h
        · exact Or.inl h
        · simp at h
          subst h
          right
          show r < r + (m + 1)
          omega
      · right; omega
    · rcases run_out row m (r + 1) _ _ x hx with h | h
      · exact Or.inl h
      · right; omega
/-- a rank that was reached, with whether it is stalled. -/
def stl (vs : List (Option Int)) (back : Nat → List Lk) (x : Nat × Int) : Nat × Int × Bool := (x.1, x.2, stalled vs (back x.1) x.2)
/-- the list when i of them are asked. -/
def stK (vs : List (Option Int)) (back : Nat → List Lk) (i : Nat) (out : List (Nat × Int)) : List (Nat × Int × Bool) := (out.take i).map (stl vs back) ++ (out.drop i).map nos
theorem stK_len (vs : List (Option Int)) (back : Nat → List Lk) (i : Nat) (out : List (Nat × Int)) : (stK vs back i out).length = out.length := by simp [stK]; omega
theorem stK_get {vs : List (Option Int)} {back : Nat → List Lk} {i : Nat} {out : List (Nat × Int)} {x : Nat × Int} (h : out[i]? = some x) : (stK vs back i out)[i]? = some (x.1, x.2, false) := by
  have hi := (List.getElem?_eq_some_iff.1 h).1
  unfold stK
  rw [List.getElem?_append_right (by simp; omega), List.getElem?_map, List.getElem?_drop, List.length_map, List.length_take, Nat.min_eq_left (by omega), Nat.sub_self, Nat.add_zero, h]
  rfl
theorem stK_step {vs : List (Option Int)} {back : Nat → List Lk} {i : Nat} {out : List (Nat × Int)} {x : Nat × Int} (h : out[i]? = some x) : stK vs back (i + 1) out = (stK vs back i out).set i (stl vs back x) := by
  have hk := (List.getElem?_eq_some_iff.1 h).1
  apply List.ext_getElem?
  intro k
  unfold stK
  rw [List.take_add_one, h]
  rcases Nat.lt_trichotomy k i with h1 | h1 | h1
  · rw [List.getElem?_set_ne (by omega), List.getElem?_append_left (by simp; omega), List.getElem?_append_left (by simp; omega), List.map_append, List.getElem?_append_left (by simp; omega)]
  · subst h1
    rw [List.getElem?_set_self (by simp; omega), List.getElem?_append_left (by simp; omega), List.map_append, List.getElem?_append_right (by simp; omega)]
    simp [Nat.min_eq_left (Nat.le_of_lt hk)]
  · rw [List.getElem?_set_ne (by omega), List.getElem?_append_right (by simp; omega), List.getElem?_append_right (by simp; omega), List.getElem?_map, List.getElem?_map, List.getElem?_drop, List.getElem?_drop]
    simp
    congr 2
    omega
theorem stK_all (vs : List (Option Int)) (back : Nat → List Lk) (out : List (Nat × Int)) : stK vs back out.length out = out.map (stl vs back) := by simp [stK]
theorem stK_zero (vs : List (Option Int)) (back : Nat → List Lk) (out : List (Nat × Int)) : stK vs back 0 out = out.map nos := by simp [stK]
theorem set_self {α : Type} {l : List α} {i : Nat} {x : α} (h : l[i]? = some x) : l.set i x = l := by
  apply List.ext_getElem?
  intro k
  by_cases e : i = k
  · subst e; rw [List.getElem?_set_self (List.getElem?_eq_some_iff.1 h).1, h]
  · rw [List.getElem?_set_ne e]
theorem snv_get : ∀ (l : List (Nat × Int × Bool)) (i : Nat) (a : Nat × Int × Bool), l[i]? = some a → (snv l)[i * 3]? = some (.int .i64 (a.1 : Int)) ∧ (snv l)[i * 3 + 1]? = some (.int .u64 a.2.1) ∧ (snv l)[i * 3 + 2]? = some (.bool a.2.2)
  | [], i, a, h => by simp at h
  | b :: r, 0, a, h => by
    simp at h
    subst h
    simp [snv]
  | b :: r, i + 1, a, h => by
    have ih := snv_get r i a (by simpa using h)
    have e : snv (b :: r) = [.int .i64 (b.1 : Int), .int .u64 b.2.1, .bool b.2.2] ++ snv r := by simp [snv]
    rw [e]
    refine ⟨?_, ?_, ?_⟩
    · rw [List.getElem?_append_right (by simp; omega), show (i + 1) * 3 - ([.int .i64 (b.1 : Int), .int .u64 b.2.1, .bool b.2.2] : List Value).length = i * 3 by simp; omega]; exact ih.1
    · rw [List.getElem?_append_right (by simp; omega), show (i + 1) * 3 + 1 - ([.int .i64 (b.1 : Int), .int .u64 b.2.1, .bool b.2.2] : List Value).length = i * 3 + 1 by simp; omega]; exact ih.2.1
    · rw [List.getElem?_append_right (by simp; omega), show (i + 1) * 3 + 2 - ([.int .i64 (b.1 : Int), .int .u64 b.2.1, .bool b.2.2] : List Value).length = i * 3 + 2 by simp; omega]; exact ih.2.2
theorem snv_set : ∀ (l : List (Nat × Int × Bool)) (i : Nat) (a : Nat × Int × Bool) (b : Bool), l[i]? = some a → (snv l).set (i * 3 + 2) (.bool b) = snv (l.set i (a.1, a.2.1, b))
  | [], i, a, b, h => by simp at h
  | c :: r, 0, a, b, h => by
    simp at h
    subst h
    simp [snv]
  | c :: r, i + 1, a, b, h => by
    have ih := snv_set r i a b (by simpa using h)
    have e : ∀ r, snv (c :: r) = [.int .i64 (c.1 : Int), .int .u64 c.2.1, .bool c.2.2] ++ snv r := fun r => by simp [snv]
    rw [List.set_cons_succ, e, e, ← ih, List.set_append_right _ _ (by simp; omega)]
    congr 2
    simp
    omega
/-- does this link stall? -/
def hits (vs : List (Option Int)) (d : Int) (l : Lk) : Bool := match vs[l.hd]? with
  | some (some a) => decide (a + l.wt < d)
  | _ => false
theorem stalled_any (vs : List (Option Int)) (row : List Lk) (d : Int) : stalled vs row d = row.any (hits vs d) := rfl
/-- while a rank's links back are gone through. -/
structure SL (B : Nat) (w : World) (n : Nat) (L : CP) (sv : Value) (vs : List (Option Int)) (f : Int → Option Int) (z : Nat) (cs : Array Value) (so : Option Addr) (sc m : Nat) (lst : List (Nat × Int × Bool)) (wr : World) : Prop where
  clm : Clm B wr n L sv vs f
  own : wr.ownsRow B 178 3 (.slice so m sc) m (snv lst)
  box : wr.heap[z]? = some (.cells cs 176)
  bel : Below B w wr
variable {B : Nat} {w wr : World} {n : Nat} {L : CP} {z : Nat} {cs : Array Value} {vs : List (Option Int)} {sv : Value} {f : Int → Option Int} {so : Option Addr} {sc m : Nat} {lst : List (Nat × Int × Bool)}
theorem SL.below {wn : World} (h : SL B w n L sv vs f z cs so sc m lst wr) (hb : Below wr.heap.size wr wn) (hB : B ≤ w.heap.size) : SL B w n L sv vs f z cs so sc m lst wn :=
  ⟨h.clm.below hb, own_keep h.own fun k _ _ hh => (hb.block k (some_lt hh)).trans hh, (hb.block _ (some_lt h.box)).trans h.box, h.bel.trans (hb.mono (Nat.le_trans hB h.bel.size))⟩
/-- a flag is set. -/
theorem SL.flag {g : Nat} (h : SL B w n L sv vs f z cs (some ⟨g, 0, none⟩) sc m lst wr) {i : Nat} {a : Nat × Int × Bool} (hi : lst[i]? = some a) : SL B w n L sv vs f z cs (some ⟨g, 0, none⟩) sc m (lst.set i (a.1, a.2.1, true)) (wr.setCell ⟨g, i * 3 + 2, none⟩ (.bool true)) := by
  obtain ⟨hg1, hg2⟩ := h.own.lt g rfl
  have hoff := h.clm.offRow h.own g rfl
  have far : ∀ k, k ≠ g → (wr.setCell ⟨g, i * 3 + 2, none⟩ (.bool true)).heap[k]? = wr.heap[k]? := fun k hk => Below.heap_setCell _ _ _ _ hk
  refine ⟨h.clm.keep fun k _ ho => far k (fun e => hoff (e ▸ ho)), ?_, ?_, h.bel.setCell hg1 _⟩
  · have := (h.own.stored (i * 3 + 2) (.bool true)).1
    rw [snv_set lst i a true hi] at this
    exact this
  · refine (far z (fun e => ?_)).trans h.box
    have hb := h.box
    rw [e] at hb
    rcases h.own.2 with ⟨e1, _⟩ | ⟨g', cap, cur, e1, _, hh, _⟩
    · cases e1
    · cases e1
      rw [hh] at hb
      simp at hb

theorem three_cells {w : World} {b : Nat} {T : TypeId} {a0 a1 a2 : Value} (h : w.heap[b]? = some (.cells #[a0, a1, a2] T)) : w.cell? ⟨b, 0, none⟩ = some a0 ∧ w.cell? ⟨b, 1, none⟩ = some a1 ∧ w.cell? ⟨b, 2, none⟩ = some a2 := by simp [World.cell?, h]
theorem sl_box {a0 a1 : Value} (h : SL B w n L sv vs f z #[a0, a1] so sc m lst wr) : wr.cell? ⟨z, 0, none⟩ = some a0 ∧ wr.cell? ⟨z, 1, none⟩ = some a1 := by simp [World.cell?, h.box]
set_option maxRecDepth 100000 in
set_option maxHeartbeats 4000000 in
theorem stall_calls (fo lo : Option Addr) (fc lc : Nat) (F : List Nat) (Ls : List Lk) (out : List (Nat × Int)) (h : Clm B w n L sv vs f) (hB : B ≤ w.heap.size) (ho : w.ownsRow B 178 3 (.slice so out.length sc) out.length (snv (out.map nos))) (hout : ∀ x ∈ out, x.1 < n) (hlen : out.length ≤ 65536) (hlow : Low vs) (hn : n ≤ 65536) (hF : FOk F Ls.length) (hFn : F.length = n + 1) (hLs : Ls.length ≤ 1048576) (hM : ∀ wx, Below B w wx → HasWs wx (.slice fo F.length fc) F ∧ HasLs wx (.slice lo Ls.length lc) Ls) (hrow : ∀ r, r < n → ∀ l ∈ rowL F Ls r, r < l.hd ∧ l.hd < n ∧ l.wt ≤ 140737488355328) :
    Calls Tryz.prog 113 #[.pointer (some ⟨L.ci, 0, none⟩), .slice so out.length sc, .agg #[.slice fo F.length fc, .slice lo Ls.length lc]] w fun e w' => e = .returned (.tuple #[]) ∧ w'.ownsRow B 178 3 (.slice so out.length sc) out.length (snv (out.map (stl vs (rowL F Ls)))) ∧ Below B w w' := by
  obtain ⟨z, hz⟩ : ∃ z, w.heap.size = z := ⟨_, rfl⟩
  obtain ⟨W0, hW0⟩ : ∃ W0, w.alloc (.cells #[.slice fo F.length fc, .slice lo Ls.length lc] 176) = W0 := ⟨_, rfl⟩
  have hb0 : Below w.heap.size w W0 := by rw [← hW0]; exact (Below.refl _ _).alloc (Nat.le_refl _) _
  have g1 : W0.heap[z]? = some (.cells #[.slice fo F.length fc, .slice lo Ls.length lc] 176) := by rw [← hW0, ← hz]; exact heap_newW _ _
  have HS0 : Hid (SL B w n L sv vs f z #[.slice fo F.length fc, .slice lo Ls.length lc] so sc out.length (stK vs (rowL F Ls) 0 out) W0) := by
    show SL _ _ _ _ _ _ _ _ _ _ _ _ _ _
    rw [stK_zero]
    exact ⟨h.below hb0, own_keep ho fun k _ _ hh => (hb0.block k (some_lt hh)).trans hh, g1, hb0.mono hB⟩
  have HM : Hid (∀ wx, Below B w wx → HasWs wx (.slice fo F.length fc) F ∧ HasLs wx (.slice lo Ls.length lc) Ls) := hM
  have HF : Hid (FOk F Ls.length ∧ F.length = n + 1 ∧ Ls.length ≤ 1048576) := ⟨hF, hFn, hLs⟩
  have HRW : Hid (∀ r, r < n → ∀ l ∈ rowL F Ls r, r < l.hd ∧ l.hd < n ∧ l.wt ≤ 140737488355328) := hrow
  have HB : Hid (B ≤ w.heap.size) := hB
  have HO : Hid (∀ x ∈ out, x.1 < n) := hout
  have HLOW : Hid (Low vs) := hlow
  have HW0 : Hid (w.alloc (.cells #[.slice fo F.length fc, .slice lo Ls.length lc] 176) = W0) := hW0
  clear hb0 g1 h hB ho hout hlow hF hFn hLs hM hrow hW0
  go_enter Tryz.func113, Tryz.ntmps113
  go_wp2_with fail
  rw [HW0.out]
  go_loopw [14] (fun iv wr => ∃ i : Nat, i ≤ out.length ∧ iv = .int .i64 i ∧ Hid (SL B w n L sv vs f z #[.slice fo F.length fc, .slice lo Ls.length lc] so sc out.length (stK vs (rowL F Ls) i out) wr)) (fun iv _ => out.length - (intOf iv).toNat)
  case atStart => exact ⟨0, Nat.zero_le _, rfl, HS0.out⟩
  case round =>
    obtain ⟨i, hi, rfl, HS⟩ := hrel
    rcases Nat.lt_or_eq_of_le hi with h1 | h1
    · obtain ⟨⟨x, d⟩, hx⟩ : ∃ x, out[i]? = some x := ⟨out[i], List.getElem?_eq_getElem h1⟩
      have hxn := HO.out _ (List.mem_of_getElem? hx)
      have HK : Hid ((stK vs (rowL F Ls) i out)[i]? = some (x, d, false)) := stK_get hx
      have HST : Hid (stK vs (rowL F Ls) (i + 1) out = (stK vs (rowL F Ls) i out).set i (x, d, stalled vs (rowL F Ls x) d)) := stK_step hx
      obtain ⟨g, hg⟩ : ∃ g, so = some ⟨g, 0, none⟩ := by
        rcases HS.out.own.2 with ⟨e1, _⟩ | ⟨g, cap, cur, e1, _⟩
        · simp at e1; omega
        · simp at e1; exact ⟨g, e1.1⟩
      subst hg
      obtain ⟨s0, s1, s2⟩ := snv_get _ i _ HK.out
      have c0 := (HS.out.own.cellAt (i * 3) (by omega)).trans s0
      have c1 := (HS.out.own.cellAt (i * 3 + 1) (by omega)).trans s1
      have c2 := (HS.out.own.cellAt (i * 3 + 2) (by omega)).trans s2
      have i1 : (i : Int) < (out.length : Int) := by omega
      have i2 : (0 : Int) ≤ (i : Int) := by omega
      have i3 : IntKind.u32.wrap (x : Int) = (x : Int) := by rw [IntKind.wrap_u32]; omega
      have hg2 := (HS.out.own.lt g rfl).2
      clear hx s0 s1 s2
      go_upto_region 4 with fail
      obtain ⟨y, hy⟩ : ∃ y, wr.heap.size = y := ⟨_, rfl⟩
      obtain ⟨W1, hW1⟩ : ∃ W1, wr.alloc (.cells #[.int .i64 (x : Int), .int .u64 d, .bool false] 178) = W1 := ⟨_, rfl⟩
      have HS1 : Hid (SL B w n L sv vs f z #[.slice fo F.length fc, .slice lo Ls.length lc] (some ⟨g, 0, none⟩) sc out.length (stK vs (rowL F Ls) i out) W1 ∧ W1.heap[y]? = some (.cells #[.int .i64 (x : Int), .int .u64 d, .bool false] 178)) := by
        constructor
        · rw [← hW1]; exact HS.out.below ((Below.refl _ _).alloc (Nat.le_refl _) _) HB.out
        · rw [← hW1, ← hy]; exact heap_newW _ _
      have hgy : g ≠ y := by omega
      have hyg : y ≠ g := hgy.symm
      rw [hW1, hy]
      clear hy hW1 c0 c1 c2 hg2 HS
      obtain ⟨e0, e1, e2⟩ := three_cells HS1.out.2
      obtain ⟨d0, d1⟩ := sl_box HS1.out.1
      have HAT : Hid (Calls Tryz.prog 128 #[.agg #[.slice fo F.length fc, .slice lo Ls.length lc], .int .u32 (x : Int)] W1 fun e w' => ∃ so c, e = .returned (.slice so (rowL F Ls x).length c) ∧ (∀ wx, HasLs wx (.slice lo Ls.length lc) Ls → HasLs wx (.slice so (rowL F Ls x).length c) (rowL F Ls x)) ∧ Below W1.heap.size W1 w') := at_calls fo lo fc lc F Ls x W1 HF.out.1 (by have := HF.out.2.1; omega) (by have := HF.out.2.1; omega) (HM.out W1 HS1.out.1.bel).1 (HM.out W1 HS1.out.1.bel).2
      go_wp2_with fail
      refine HAT.out.mono ?_
      rintro e w6 ⟨ro, rc, rfl, hX, hb6⟩
      have HX : Hid (∀ wx, HasLs wx (.slice lo Ls.length lc) Ls → HasLs wx (.slice ro (rowL F Ls x).length rc) (rowL F Ls x)) := hX
      have HLL : Hid (∀ (j : Nat) (l : Lk), (rowL F Ls x)[j]? = some l → x < l.hd ∧ l.hd < n ∧ l.wt ≤ 140737488355328) := fun j l hj => HRW.out x hxn l (List.mem_of_getElem? hj)
      have hm9 : (rowL F Ls x).length ≤ 1048576 := by
        have := HF.out.2.2
        have h2 : (rowL F Ls x).length ≤ Ls.length := by unfold rowL; rw [List.length_take, List.length_drop]; omega
        omega
      have HS6 : Hid (SL B w n L sv vs f z #[.slice fo F.length fc, .slice lo Ls.length lc] (some ⟨g, 0, none⟩) sc out.length ((stK vs (rowL F Ls) i out).set i (x, d, ((rowL F Ls x).take 0).any (hits vs d))) w6 ∧ w6.heap[y]? = some (.cells #[.int .i64 (x : Int), .int .u64 d, .bool false] 178)) := by
        have e : (stK vs (rowL F Ls) i out).set i (x, d, ((rowL F Ls x).take 0).any (hits vs d)) = stK vs (rowL F Ls) i out := set_self HK.out
        constructor
        · rw [e]; exact HS1.out.1.below hb6 HB.out
        · exact (hb6.block _ (some_lt HS1.out.2)).trans HS1.out.2
      rw [stalled_any] at HST
      obtain ⟨Rw, hRw⟩ : ∃ Rw, rowL F Ls x = Rw := ⟨_, rfl⟩
      obtain ⟨K0, hK0⟩ : ∃ K0, stK vs (rowL F Ls) i out = K0 := ⟨_, rfl⟩
      have hKl : K0.length = out.length := by rw [← hK0]; exact stK_len _ _ _ _
      rw [hK0] at HS6 HST HK
      rw [hRw] at HX HLL hm9 HS6 HST ⊢
      clear hX hb6 hRw hK0 HAT HS1 e0 e1 e2 d0 d1
      go_wp2_with fail
      go_loopw [25] (fun iv wr => ∃ j : Nat, j ≤ Rw.length ∧ iv = .int .i64 j ∧ Hid (SL B w n L sv vs f z #[.slice fo F.length fc, .slice lo Ls.length lc] (some ⟨g, 0, none⟩) sc out.length (K0.set i (x, d, (Rw.take j).any (hits vs d))) wr ∧ wr.heap[y]? = some (.cells #[.int .i64 (x : Int), .int .u64 d, .bool false] 178))) (fun iv _ => Rw.length - (intOf iv).toNat)
      case atStart => exact ⟨0, Nat.zero_le _, rfl, HS6.out⟩
      case round =>
        obtain ⟨j, hj, rfl, HJ⟩ := hrel
        rcases Nat.lt_or_eq_of_le hj with h2 | h2
        · obtain ⟨l, hl⟩ : ∃ l, Rw[j]? = some l := ⟨Rw[j], List.getElem?_eq_getElem h2⟩
          obtain ⟨q1, q2, q3⟩ := HLL.out j l hl
          obtain ⟨_, b, off, e1, _, g0, g1, g2, g3⟩ := (HX.out wr (HM.out wr HJ.out.1.bel).2).at hl
          subst e1
          have HT : Hid ((Rw.take (j + 1)).any (hits vs d) = ((Rw.take j).any (hits vs d) || hits vs d l)) := by
            show _ = _
            rw [List.take_add_one, hl]
            simp
          have i4 : (j : Int) < (Rw.length : Int) := by omega
          have i5 : (0 : Int) ≤ (j : Int) := by omega
          have i6 : IntKind.i64.wrap (l.hd : Int) = (l.hd : Int) := by rw [IntKind.wrap_i64]; omega
          have hvl : vs.length = n := HJ.out.1.clm.st.lt.2.2.2.1
          obtain ⟨o, ho⟩ : ∃ o, vs[l.hd]? = some o := ⟨vs[l.hd]'(by omega), List.getElem?_eq_getElem (by omega)⟩
          have hgot : ∃ (a : Int) (bb : Bool), St.gotV o = .tuple #[.int .u64 a, .bool bb] ∧ hits vs d l = (bb && decide (a + l.wt < d)) ∧ 0 ≤ a ∧ a ≤ 9223372036854775808 := by
            cases o with
            | none => exact ⟨0, false, rfl, by unfold hits; rw [ho]; rfl, by omega, by omega⟩
            | some a =>
              have hlo := HLOW.out l.hd a ho
              exact ⟨a, true, rfl, by unfold hits; rw [ho]; rfl, hlo.1, by omega⟩
          obtain ⟨a, bb, hgv, hhit, ha1, ha2⟩ := hgot
          have i7 : IntKind.u64.wrap (a + (l.wt : Int)) = a + (l.wt : Int) := by rw [IntKind.wrap_u64]; omega
          clear hl
          go_upto_region 7 with fail
          obtain ⟨q, hq⟩ : ∃ q, wr.heap.size = q := ⟨_, rfl⟩
          obtain ⟨W2, hW2⟩ : ∃ W2, wr.alloc (.cells #[.int .u32 (l.hd : Int), .int .u64 (l.wt : Int), .int .u32 (l.lf : Int), .int .u32 (l.rt : Int)] 65) = W2 := ⟨_, rfl⟩
          have H2 : Hid (∀ wx, Below W2.heap.size W2 wx → (SL B w n L sv vs f z #[.slice fo F.length fc, .slice lo Ls.length lc] (some ⟨g, 0, none⟩) sc out.length (K0.set i (x, d, (Rw.take j).any (hits vs d))) wx ∧ wx.heap[y]? = some (.cells #[.int .i64 (x : Int), .int .u64 d, .bool false] 178)) ∧ (wx.cell? ⟨q, 0, none⟩ = some (.int .u32 (l.hd : Int)) ∧ wx.cell? ⟨q, 1, none⟩ = some (.int .u64 (l.wt : Int))) ∧ wx.cell? ⟨L.ci, 0, none⟩ = some (.pointer (some ⟨L.sb, 0, none⟩))) := fun wx hx => by
            have f1 : W2.heap[q]? = some (.cells #[.int .u32 (l.hd : Int), .int .u64 (l.wt : Int), .int .u32 (l.lf : Int), .int .u32 (l.rt : Int)] 65) := by rw [← hW2, ← hq]; exact heap_newW _ _
            have f2 : Below wr.heap.size wr W2 := by rw [← hW2]; exact (Below.refl _ _).alloc (Nat.le_refl _) _
            have f3 : Below wr.heap.size wr wx := f2.trans (hx.mono f2.size)
            have f4 := (hx.block _ (some_lt f1)).trans f1
            have f5 := HJ.out.1.below f3 HB.out
            exact ⟨⟨f5, (f3.block _ (some_lt HJ.out.2)).trans HJ.out.2⟩, by simp [World.cell?, f4], f5.clm.cells.1⟩
          have HG : Hid (∀ wx, Below W2.heap.size W2 wx → Calls Tryz.prog 127 #[.pointer (some ⟨L.sb, 0, none⟩), .int .i64 (l.hd : Int)] wx fun e w' => e = .returned (.tuple #[.int .u64 a, .bool bb]) ∧ Below wx.heap.size wx w') := fun wx hx => by rw [← hgv]; exact St.get_in (H2.out wx hx).1.1.clm.st l.hd o ho
          have HB2 : Hid (Below W2.heap.size W2 W2) := Below.refl _ _
          rw [hW2, hq]
          clear hq hW2 g0 g1 g2 g3 ho hgv
          obtain ⟨_, ⟨k0, k1⟩, k2⟩ := H2.out W2 HB2.out
          go_region_held3 (fun w' => w'.cell? ⟨q, 0, none⟩ = some (.int .u32 (l.hd : Int)) ∧ w'.cell? ⟨L.ci, 0, none⟩ = some (.pointer (some ⟨L.sb, 0, none⟩))) (go_keep) (first
            | (go_at_call 127; refine (HG.out _ (by first | exact HB2.out.drew | exact bdrew HB2.out _ | exact HB2.out)).mono ?_; rintro e v1 ⟨rfl, hy⟩; have V1 : Hid (Below W2.heap.size W2 v1) := btrH' (by first | exact HB2.out.drew | exact bdrew HB2.out _ | exact HB2.out) hy; obtain ⟨_, ⟨k0, k1⟩, k2⟩ := H2.out v1 V1.out; clear hy))
          obtain ⟨⟨hS3, hy3⟩, _, _⟩ := H2.out v1 V1.out
          have HS3 : Hid (SL B w n L sv vs f z #[.slice fo F.length fc, .slice lo Ls.length lc] (some ⟨g, 0, none⟩) sc out.length (K0.set i (x, d, (Rw.take j).any (hits vs d))) v1 ∧ v1.heap[y]? = some (.cells #[.int .i64 (x : Int), .int .u64 d, .bool false] 178)) := ⟨hS3, hy3⟩
          obtain ⟨e0, e1, e2⟩ := three_cells hy3
          clear hS3 hy3
          have HKI : Hid ((K0.set i (x, d, (Rw.take j).any (hits vs d)))[i]? = some (x, d, (Rw.take j).any (hits vs d))) := by
            show _ = _
            rw [List.getElem?_set_self (by omega)]
          cases hh : hits vs d l with
          | false =>
            have HE : Hid (K0.set i (x, d, (Rw.take (j + 1)).any (hits vs d)) = K0.set i (x, d, (Rw.take j).any (hits vs d))) := by show _ = _; rw [HT.out, hh, Bool.or_false]
            rw [hh] at hhit
            have hcase : bb = false ∨ (bb = true ∧ ¬ a + (l.wt : Int) < d) := by
              cases bb
              · exact Or.inl rfl
              · exact Or.inr ⟨rfl, by simpa using hhit.symm⟩
            clear hhit hh
            rcases hcase with rfl | ⟨rfl, hlt⟩
            all_goals
              go_wp2
              go_roundw
              case rel => exact ⟨j + 1, by omega, by go_num, by rw [HE.out]; exact HS3.out⟩
              case measure => simp [intOf]; omega
          | true =>
            have HE : Hid (K0.set i (x, d, (Rw.take (j + 1)).any (hits vs d)) = (K0.set i (x, d, (Rw.take j).any (hits vs d))).set i (x, d, true)) := by show _ = _; rw [HT.out, hh, Bool.or_true, List.set_set]
            rw [hh] at hhit
            obtain ⟨rfl, hlt⟩ : bb = true ∧ a + (l.wt : Int) < d := by
              cases bb
              · simp at hhit
              · exact ⟨rfl, by simpa using hhit.symm⟩
            have HFL : Hid (SL B w n L sv vs f z #[.slice fo F.length fc, .slice lo Ls.length lc] (some ⟨g, 0, none⟩) sc out.length ((K0.set i (x, d, (Rw.take j).any (hits vs d))).set i (x, d, true)) (v1.setCell ⟨g, i * 3 + 2, none⟩ (.bool true)) ∧ (v1.setCell ⟨g, i * 3 + 2, none⟩ (.bool true)).heap[y]? = some (.cells #[.int .i64 (x : Int), .int .u64 d, .bool false] 178)) := ⟨HS3.out.1.flag HKI.out, (Below.heap_setCell _ _ _ _ hyg).trans HS3.out.2⟩
            obtain ⟨_, _, s2⟩ := snv_get _ i _ HKI.out
            have c2 := (HS3.out.1.own.cellAt (i * 3 + 2) (by omega)).trans s2
            have z2 := HS3.out.1.own.frozenAt (i * 3 + 2)
            clear hhit hh s2
            go_wp2
            go_roundw
            case rel => exact ⟨j + 1, by omega, by go_num, by rw [HE.out]; exact HFL.out⟩
            case measure => simp [intOf]; omega
        · subst h2
          have HJ2 : Hid (SL B w n L sv vs f z #[.slice fo F.length fc, .slice lo Ls.length lc] (some ⟨g, 0, none⟩) sc out.length (stK vs (rowL F Ls) (i + 1) out) wr) := by
            have g := HJ.out.1
            rw [List.take_length] at g
            show SL _ _ _ _ _ _ _ _ _ _ _ _ _ _
            rw [HST.out]
            exact g
          go_wp2
          go_roundw
          case rel => exact ⟨i + 1, by omega, by go_num, HJ2.out⟩
          case measure => simp [intOf]; omega
    · subst h1
      go_wp2
      exact bodyPost_end (v := .tuple #[]) (by simp [results, Tryz.results113]) rfl ⟨rfl, by have g := HS.out.own; rw [stK_all] at g; exact g, HS.out.bel⟩
end Go.Proofs.YtodilocmfdeehaaGreatDoor.Cb

namespace Go.Proofs.YtodilocmfdeehaaGreatDoor.Cb
open Go.RowKit Go.Extern Go.Shelf Hi

attribute [local go_sem] Oper.semAt_some

theorem run_len (row : Nat → List Lk) : ∀ (m r : Nat) (vs : List (Option Int)) (out : List (Nat × Int)), (run row m r vs out).2.length ≤ out.length + m
  | 0, r, vs, out => Nat.le_refl _
  | m + 1, r, vs, out => by
    rw [run]
    split
    · rename_i d hd
      have := run_len row m (r + 1) (relaxs d (row r) vs) (out ++ [(r, d)])
      rw [List.length_append, List.length_singleton] at this
      exact Nat.le_trans this (by omega)
    · have := run_len row m (r + 1) vs out
      omega
set_option maxRecDepth 100000 in
set_option maxHeartbeats 4000000 in
theorem newC_calls (n : Nat) (hn : n ≤ 65536) (w : World) : Calls Tryz.prog 111 #[.int .i64 (n : Int)] w fun e w' => ∃ L : CP, e = .returned (.tuple #[.pointer (some ⟨L.ci, 0, none⟩), .nilIface]) ∧ Clm w.heap.size w' n L (.slice none 0 0) (List.replicate n none) (fun _ => none) ∧ Below w.heap.size w w' := by
  have HS : Hid (∀ wx : World, Calls Tryz.prog 123 #[.int .i64 (n : Int), .int .u32 0] wx fun e w' => e = .returned (.tuple #[.pointer (some ⟨wx.heap.size + 1, 0, none⟩), .nilIface]) ∧ St.IsStamp w' (wx.heap.size + 1) wx.heap.size n (List.replicate n none) ∧ Below wx.heap.size wx w') := fun wx => St.new_calls n hn 0 (by omega) (by omega) wx
  have HH : Hid (∀ wx : World, Calls Tryz.prog 124 #[.int .i64 (n : Int)] wx fun e w' => e = .returned (.tuple #[.pointer (some ⟨wx.heap.size + 1, 0, none⟩), .nilIface]) ∧ Hp.IsHeap w' (wx.heap.size + 1) wx.heap.size n (.slice none 0 0) (fun _ => none) ∧ Below wx.heap.size wx w') := fun wx => Hp.new_calls n hn wx
  go_enter Tryz.func111, Tryz.ntmps111
  go_wp2_with fail
  refine (HS.out w).mono ?_
  rintro e w1 ⟨rfl, hs1, hb1⟩
  have H1 : Hid (St.IsStamp w1 (w.heap.size + 1) w.heap.size n (List.replicate n none) ∧ Below w.heap.size w w1) := ⟨hs1, hb1⟩
  clear hs1 hb1
  go_wp2_with fail
  refine (HH.out w1).mono ?_
  rintro e w2 ⟨rfl, hs2, hb2⟩
  have H2 : Hid (Hp.IsHeap w2 (w1.heap.size + 1) w1.heap.size n (.slice none 0 0) (fun _ => none) ∧ Below w1.heap.size w1 w2) := ⟨hs2, hb2⟩
  clear hs2 hb2
  go_wp2
  go_ret2
  have l1 := H1.out.1.lt
  have l2 := H2.out.1.lt
  have q1 := H1.out.2.size
  have q2 := H2.out.2.size
  have hb3 : Below w2.heap.size w2 (w2.alloc (.cells #[.pointer (some ⟨w.heap.size + 1, 0, none⟩), .pointer (some ⟨w1.heap.size + 1, 0, none⟩)] 219)) := (Below.refl _ _).alloc (Nat.le_refl _) _
  refine ⟨⟨w2.heap.size, w.heap.size + 1, w.heap.size, w1.heap.size + 1, w1.heap.size⟩, rfl, ⟨heap_newW _ _, (H1.out.1.below H2.out.2).below hb3, H2.out.1.below hb3, ⟨?_, ?_, ?_, ?_, ?_, ?_, ?_, ?_⟩, ?_, ?_, ?_, ?_⟩, H1.out.2.trans ((H2.out.2.mono q1).trans (hb3.mono (by omega)))⟩
  · show w2.heap.size ≠ w.heap.size + 1; omega
  · show w2.heap.size ≠ w.heap.size; omega
  · show w2.heap.size ≠ w1.heap.size + 1; omega
  · show w2.heap.size ≠ w1.heap.size; omega
  · show w.heap.size + 1 ≠ w1.heap.size + 1; omega
  · show w.heap.size + 1 ≠ w1.heap.size; omega
  · show w.heap.size ≠ w1.heap.size + 1; omega
  · show w.heap.size ≠ w1.heap.size; omega
  · simp [Value.ownBlock]
  · simp [Value.ownBlock]
  · simp [Value.ownBlock]
  · rintro k (o | o | o | o | o | o)
    · simp at o; omega
    · simp at o; omega
    · simp at o; omega
    · simp at o; omega
    · simp at o; omega
    · simp [Value.ownBlock] at o
/-- a list of links by their lower ends, in memory and in form. -/
structure RowsOk (w : World) (n : Nat) (fo lo : Option Addr) (fc lc : Nat) (F : List Nat) (Ls : List Lk) : Prop where
  fs : HasWs w (.slice fo F.length fc) F
  ls : HasLs w (.slice lo Ls.length lc) Ls
  ok : FOk F Ls.length
  len : F.length = n + 1
  few : Ls.length ≤ 1048576
  form : ∀ r, r < n → ∀ l ∈ rowL F Ls r, r < l.hd ∧ l.hd < n ∧ l.wt ≤ 140737488355328

set_option maxRecDepth 100000 in
set_option maxHeartbeats 4000000 in
theorem search_good (v : HV) (h : Hr) (s : Nat) (fo lo : Option Addr) (fc lc : Nat) (F : List Nat) (Ls : List Lk) (fo' lo' : Option Addr) (fc' lc' : Nat) (F' : List Nat) (Ls' : List Lk) (w : World) (hH : HasH w v h) (hc : chk h = (0, [])) (hs : s < h.node.length) (ha : RowsOk w h.node.length fo lo fc lc F Ls) (hb : RowsOk w h.node.length fo' lo' fc' lc' F' Ls') :
    Calls Tryz.prog 94 #[hvl v h, .int .i64 (s : Int), .agg #[.slice fo F.length fc, .slice lo Ls.length lc], .agg #[.slice fo' F'.length fc', .slice lo' Ls'.length lc']] w fun e w' => ∃ (mo : Option Addr) (mc : Nat) (X : List (Nat × Int × Bool)), X = climbed h.node.length s (rowL F Ls) (rowL F' Ls') ∧ e = .returned (.tuple #[.slice mo X.length mc, .nilIface]) ∧ w'.ownsRow w.heap.size 178 3 (.slice mo X.length mc) X.length (snv X) ∧ Below w.heap.size w w' := by
  obtain ⟨k1, k2, k3, k4, k5, k6, k7, k8⟩ := chk_ok hc
  obtain ⟨z, hz⟩ : ∃ z, w.heap.size = z := ⟨_, rfl⟩
  obtain ⟨W0, hW0⟩ : ∃ W0, ((w.alloc (.cells (cellsH v h) 25)).alloc (.cells #[.slice fo F.length fc, .slice lo Ls.length lc] 176)).alloc (.cells #[.slice fo' F'.length fc', .slice lo' Ls'.length lc'] 176) = W0 := ⟨_, rfl⟩
  have hB0 : Below w.heap.size w W0 := by rw [← hW0]; exact (((Below.refl _ w).alloc (Nat.le_refl _) _).alloc (by simp) _).alloc (by simp; omega) _
  have h0 : W0.heap[z]? = some (.cells (cellsH v h) 25) := by
    rw [← hW0, ← hz]; exact ((Below.heap_alloc _ _ _ (by simp; omega)).trans (Below.heap_alloc _ _ _ (by simp))).trans (heap_newW _ _)
  have h1 : W0.heap[z + 1]? = some (.cells #[.slice fo F.length fc, .slice lo Ls.length lc] 176) := by
    rw [← hW0, ← hz]
    have g := heap_newW (w.alloc (.cells (cellsH v h) 25)) (.cells #[.slice fo F.length fc, .slice lo Ls.length lc] 176)
    rw [World.size_alloc] at g
    exact (Below.heap_alloc _ _ _ (by simp)).trans g
  have h2 : W0.heap[z + 1 + 1]? = some (.cells #[.slice fo' F'.length fc', .slice lo' Ls'.length lc'] 176) := by
    rw [← hW0, ← hz]
    have g := heap_newW ((w.alloc (.cells (cellsH v h) 25)).alloc (.cells #[.slice fo F.length fc, .slice lo Ls.length lc] 176)) (.cells #[.slice fo' F'.length fc', .slice lo' Ls'.length lc'] 176)
    rw [World.size_alloc, World.size_alloc] at g
    exact g
  have HQ : Hid (∀ wx, Below W0.heap.size W0 wx → ((wx.cell? ⟨z, 0, none⟩ = some (.slice v.no h.node.length v.nc) ∧ wx.cell? ⟨z, 1, none⟩ = some (.slice v.uo h.upF.length v.uc) ∧ wx.cell? ⟨z, 2, none⟩ = some (.slice v.ul h.up.length v.ulc) ∧ wx.cell? ⟨z, 3, none⟩ = some (.slice v.wo h.dnF.length v.wc) ∧ wx.cell? ⟨z, 4, none⟩ = some (.slice v.dl h.dn.length v.dlc)) ∧ (wx.cell? ⟨z + 1, 0, none⟩ = some (.slice fo F.length fc) ∧ wx.cell? ⟨z + 1, 1, none⟩ = some (.slice lo Ls.length lc)) ∧ wx.cell? ⟨z + 1 + 1, 0, none⟩ = some (.slice fo' F'.length fc') ∧ wx.cell? ⟨z + 1 + 1, 1, none⟩ = some (.slice lo' Ls'.length lc')) ∧ Below w.heap.size w wx) := fun wx hx => by
    have f0 := (hx.block _ (some_lt h0)).trans h0
    have f1 := (hx.block _ (some_lt h1)).trans h1
    have f2 := (hx.block _ (some_lt h2)).trans h2
    exact ⟨⟨five_cells f0, by simp [World.cell?, f1], by simp [World.cell?, f2]⟩, hB0.trans (hx.mono hB0.size)⟩
  have HCK : Hid (Calls Tryz.prog 31 #[hvl v h] W0 fun e w' => e = .returned .nilIface ∧ Below W0.heap.size W0 w') := check_ok (hH.keep hB0) hc
  have HW0 : Hid (((w.alloc (.cells (cellsH v h) 25)).alloc (.cells #[.slice fo F.length fc, .slice lo Ls.length lc] 176)).alloc (.cells #[.slice fo' F'.length fc', .slice lo' Ls'.length lc'] 176) = W0) := hW0
  obtain ⟨n, hn⟩ : ∃ n, h.node.length = n := ⟨_, rfl⟩
  rw [hn] at ha hb hs k1
  have HA : Hid (RowsOk w n fo lo fc lc F Ls ∧ RowsOk w n fo' lo' fc' lc' F' Ls') := ⟨ha, hb⟩
  have HN : Hid (h.node.length = n) := hn
  rw [hn] at HQ
  obtain ⟨⟨⟨c0, c1, c2, c3, c4⟩, ⟨d0, d1⟩, e0, e1⟩, _⟩ := HQ.out W0 (Below.refl _ _)
  have i1 : decide ((s : Int) < 0) = false := by simp
  have i2 : decide ((n : Int) ≤ (s : Int)) = false := by simp; omega
  have i3 : IntKind.u32.wrap (s : Int) = (s : Int) := by rw [IntKind.wrap_u32]; omega
  have HZ : Hid (w.heap.size = z) := hz
  rw [hn]
  clear hW0 h0 h1 h2 hB0 hH hc k2 k3 k4 k5 k6 k7 k8 ha hb
  unfold cellsH at HW0
  unfold hvl at HCK ⊢
  rw [hn] at HCK HW0 ⊢
  clear hn
  go_enter Tryz.func94, Tryz.ntmps94
  go_upto_region 1 with fail
  rw [HW0.out]
  go_wp2_with fail
  refine HCK.out.mono ?_
  rintro e w1 ⟨rfl, hb1⟩
  have HB1 : Hid (Below W0.heap.size W0 w1) := hb1
  clear hb1 c0 c1 c2 c3 c4 d0 d1 e0 e1
  obtain ⟨⟨⟨c0, c1, c2, c3, c4⟩, ⟨d0, d1⟩, e0, e1⟩, _⟩ := HQ.out w1 HB1.out
  go_wp2_with fail
  refine (newC_calls n k1 w1).mono ?_
  rintro e w2 ⟨L, rfl, hC2, hb2⟩
  have HC2 : Hid (Clm w1.heap.size w2 n L (.slice none 0 0) (List.replicate n none) (fun _ => none) ∧ Below w1.heap.size w1 w2) := ⟨hC2, hb2⟩
  have HUP : Hid (∀ wx, Below w1.heap.size w1 wx → Below W0.heap.size W0 wx) := fun wx hx => HB1.out.trans (hx.mono HB1.out.size)
  have HMA : Hid (∀ wx, Below w1.heap.size w1 wx → (HasWs wx (.slice fo F.length fc) F ∧ HasLs wx (.slice lo Ls.length lc) Ls) ∧ HasWs wx (.slice fo' F'.length fc') F' ∧ HasLs wx (.slice lo' Ls'.length lc') Ls') := fun wx hx => by
    have g := (HQ.out wx (HUP.out wx hx)).2
    exact ⟨⟨HA.out.1.fs.keep g, HA.out.1.ls.keep g⟩, HA.out.2.fs.keep g, HA.out.2.ls.keep g⟩
  clear hC2 hb2 c0 c1 c2 c3 c4 d0 d1 e0 e1
  obtain ⟨⟨⟨c0, c1, c2, c3, c4⟩, ⟨d0, d1⟩, e0, e1⟩, _⟩ := HQ.out w2 (HUP.out w2 HC2.out.2)
  go_wp2_with fail
  refine (reached_calls fo lo fc lc F Ls HC2.out.1 HC2.out.2.size hs k1 HA.out.1.ok HA.out.1.len HA.out.1.few (fun wx hx => (HMA.out wx (HC2.out.2.trans hx)).1) HA.out.1.form).mono ?_
  rintro e w3 ⟨sv3, mo, mc, r, vs, out, hrun, rfl, hC3, ho3, hb3, hlow3⟩
  have H3 : Hid (Clm w1.heap.size w3 n L sv3 vs (waits vs r) ∧ w3.ownsRow w1.heap.size 178 3 (.slice mo out.length mc) out.length (snv (out.map nos)) ∧ Below w1.heap.size w1 w3 ∧ Low vs) := ⟨hC3, ho3, HC2.out.2.trans hb3, hlow3⟩
  have HRUN : Hid (run (rowL F Ls) n 0 (start n s) [] = (vs, out)) := hrun
  have HOUT : Hid ((∀ x ∈ out, x.1 < n) ∧ out.length ≤ n) := by
    have g1 := run_out (rowL F Ls) n 0 (start n s) []
    have g2 := run_len (rowL F Ls) n 0 (start n s) []
    rw [hrun] at g1 g2
    refine ⟨fun x hx => ?_, by simpa using g2⟩
    rcases g1 x hx with g | g
    · simp at g
    · omega
  clear hC3 ho3 hb3 hlow3 hrun c0 c1 c2 c3 c4 d0 d1 e0 e1
  obtain ⟨⟨⟨c0, c1, c2, c3, c4⟩, ⟨d0, d1⟩, e0, e1⟩, _⟩ := HQ.out w3 (HUP.out w3 H3.out.2.2.1)
  go_wp2_with fail
  refine (stall_calls fo' lo' fc' lc' F' Ls' out H3.out.1 H3.out.2.2.1.size H3.out.2.1 HOUT.out.1 (Nat.le_trans HOUT.out.2 k1) H3.out.2.2.2 k1 HA.out.2.ok HA.out.2.len HA.out.2.few (fun wx hx => (HMA.out wx (H3.out.2.2.1.trans hx)).2) HA.out.2.form).mono ?_
  rintro e w4 ⟨rfl, ho4, hb4⟩
  have H4 : Hid (w4.ownsRow w1.heap.size 178 3 (.slice mo out.length mc) out.length (snv (out.map (stl vs (rowL F' Ls')))) ∧ Below w1.heap.size w1 w4) := ⟨ho4, H3.out.2.2.1.trans hb4⟩
  clear ho4 hb4 c0 c1 c2 c3 c4 d0 d1 e0 e1
  go_wp2
  go_ret2
  have hlen : (out.map (stl vs (rowL F' Ls'))).length = out.length := List.length_map ..
  refine ⟨mo, mc, out.map (stl vs (rowL F' Ls')), ?_, by rw [hlen]; rfl, ?_, (HQ.out w4 (HUP.out w4 H4.out.2)).2⟩
  · unfold climbed
    rw [HRUN.out]
    rfl
  · rw [hlen]
    exact own_mono H4.out.1 (Nat.le_trans (HQ.out W0 (Below.refl _ _)).2.size HB1.out.size)

/-- what a search refuses. -/
def Refuses (h : Hr) (s : Int) : Prop := chk h ≠ (0, []) ∨ s < 0 ∨ (h.node.length : Int) ≤ s
/-- by which error. -/
def cErr (h : Hr) : Int × List (Int × Int) := if chk h = (0, []) then (7, []) else chk h
/-- the rows of a hierarchy in form. -/
theorem rows_up {v : HV} {h : Hr} {w : World} (hH : HasH w v h) (hc : chk h = (0, [])) : RowsOk w h.node.length v.uo v.ul v.uc v.ulc h.upF h.up := by
  obtain ⟨k1, k2, k3, k4, k5, k6, k7, k8⟩ := chk_ok hc
  exact ⟨hH.upF, hH.up, k5, k3, by omega, fun r hr l hl => row_form hc hr (Or.inl hl)⟩
theorem rows_dn {v : HV} {h : Hr} {w : World} (hH : HasH w v h) (hc : chk h = (0, [])) : RowsOk w h.node.length v.wo v.dl v.wc v.dlc h.dnF h.dn := by
  obtain ⟨k1, k2, k3, k4, k5, k6, k7, k8⟩ := chk_ok hc
  exact ⟨hH.dnF, hH.dn, k6, k4, by omega, fun r hr l hl => row_form hc hr (Or.inr hl)⟩
end Go.Proofs.YtodilocmfdeehaaGreatDoor.Cb

namespace Go.Proofs.YtodilocmfdeehaaGreatDoor.Hi
open Go.RowKit Go.Extern Go.Shelf

end Go.Proofs.YtodilocmfdeehaaGreatDoor.Hi

namespace Go.Proofs.YtodilocmfdeehaaGreatDoor.Cb
open Go.RowKit Go.Extern Go.Shelf Hi

attribute [local go_sem] Oper.semAt_some

set_option maxRecDepth 100000 in
set_option maxHeartbeats 4000000 in
theorem up_ok (v : HV) (h : Hr) (s : Nat) (w : World) (hH : HasH w v h) (hc : chk h = (0, [])) (hs : s < h.node.length) :
    Calls Tryz.prog 72 #[hvl v h, .int .i64 (s : Int)] w fun e w' => ∃ (mo : Option Addr) (mc : Nat) (X : List (Nat × Int × Bool)), X = upL h s ∧ e = .returned (.tuple #[.slice mo X.length mc, .nilIface]) ∧ w'.ownsRow w.heap.size 178 3 (.slice mo X.length mc) X.length (snv X) ∧ Below w.heap.size w w' := by
  obtain ⟨z, hz⟩ : ∃ z, w.heap.size = z := ⟨_, rfl⟩
  obtain ⟨W0, hW0⟩ : ∃ W0, w.alloc (.cells (cellsH v h) 25) = W0 := ⟨_, rfl⟩
  have hB0 : Below w.heap.size w W0 := by rw [← hW0]; exact (Below.refl _ w).alloc (Nat.le_refl _) _
  have h0 : W0.heap[z]? = some (.cells (cellsH v h) 25) := by rw [← hW0, ← hz]; exact heap_newW _ _
  obtain ⟨c0, c1, c2, c3, c4⟩ := five_cells h0
  have HW0 : Hid (w.alloc (.cells (cellsH v h) 25) = W0) := hW0
  have HB0 : Hid (Below w.heap.size w W0) := hB0
  have HSE : Hid (Calls Tryz.prog 94 #[hvl v h, .int .i64 (s : Int), .agg #[.slice v.uo h.upF.length v.uc, .slice v.ul h.up.length v.ulc], .agg #[.slice v.wo h.dnF.length v.wc, .slice v.dl h.dn.length v.dlc]] W0 fun e w' => ∃ (mo : Option Addr) (mc : Nat) (X : List (Nat × Int × Bool)), X = upL h s ∧ e = .returned (.tuple #[.slice mo X.length mc, .nilIface]) ∧ w'.ownsRow W0.heap.size 178 3 (.slice mo X.length mc) X.length (snv X) ∧ Below W0.heap.size W0 w') := search_good v h s v.uo v.ul v.uc v.ulc h.upF h.up v.wo v.dl v.wc v.dlc h.dnF h.dn W0 (hH.keep hB0) hc hs (rows_up (hH.keep hB0) hc) (rows_dn (hH.keep hB0) hc)
  clear hW0 h0 hB0 hH
  unfold cellsH at HW0
  unfold hvl at HSE ⊢
  go_enter Tryz.func72, Tryz.ntmps72
  go_wp2_with fail
  rw [HW0.out]
  refine HSE.out.mono ?_
  rintro e w1 ⟨mo, mc, X, hX, rfl, ho, hb⟩
  have H1 : Hid (X = upL h s ∧ w1.ownsRow w.heap.size 178 3 (.slice mo X.length mc) X.length (snv X) ∧ Below w.heap.size w w1) := ⟨hX, own_mono ho HB0.out.size, HB0.out.trans (hb.mono HB0.out.size)⟩
  clear hX ho hb
  go_wp2
  go_ret2
  exact ⟨mo, mc, X, H1.out.1, rfl, H1.out.2.1, H1.out.2.2⟩

set_option maxRecDepth 100000 in
set_option maxHeartbeats 4000000 in
theorem down_ok (v : HV) (h : Hr) (s : Nat) (w : World) (hH : HasH w v h) (hc : chk h = (0, [])) (hs : s < h.node.length) :
    Calls Tryz.prog 73 #[hvl v h, .int .i64 (s : Int)] w fun e w' => ∃ (mo : Option Addr) (mc : Nat) (X : List (Nat × Int × Bool)), X = dnL h s ∧ e = .returned (.tuple #[.slice mo X.length mc, .nilIface]) ∧ w'.ownsRow w.heap.size 178 3 (.slice mo X.length mc) X.length (snv X) ∧ Below w.heap.size w w' := by
  obtain ⟨z, hz⟩ : ∃ z, w.heap.size = z := ⟨_, rfl⟩
  obtain ⟨W0, hW0⟩ : ∃ W0, w.alloc (.cells (cellsH v h) 25) = W0 := ⟨_, rfl⟩
  have hB0 : Below w.heap.size w W0 := by rw [← hW0]; exact (Below.refl _ w).alloc (Nat.le_refl _) _
  have h0 : W0.heap[z]? = some (.cells (cellsH v h) 25) := by rw [← hW0, ← hz]; exact heap_newW _ _
  obtain ⟨c0, c1, c2, c3, c4⟩ := five_cells h0
  have HW0 : Hid (w.alloc (.cells (cellsH v h) 25) = W0) := hW0
  have HB0 : Hid (Below w.heap.size w W0) := hB0
  have HSE : Hid (Calls Tryz.prog 94 #[hvl v h, .int .i64 (s : Int), .agg #[.slice v.wo h.dnF.length v.wc, .slice v.dl h.dn.length v.dlc], .agg #[.slice v.uo h.upF.length v.uc, .slice v.ul h.up.length v.ulc]] W0 fun e w' => ∃ (mo : Option Addr) (mc : Nat) (X : List (Nat × Int × Bool)), X = dnL h s ∧ e = .returned (.tuple #[.slice mo X.length mc, .nilIface]) ∧ w'.ownsRow W0.heap.size 178 3 (.slice mo X.length mc) X.length (snv X) ∧ Below W0.heap.size W0 w') := search_good v h s v.wo v.dl v.wc v.dlc h.dnF h.dn v.uo v.ul v.uc v.ulc h.upF h.up W0 (hH.keep hB0) hc hs (rows_dn (hH.keep hB0) hc) (rows_up (hH.keep hB0) hc)
  clear hW0 h0 hB0 hH
  unfold cellsH at HW0
  unfold hvl at HSE ⊢
  go_enter Tryz.func73, Tryz.ntmps73
  go_wp2_with fail
  rw [HW0.out]
  refine HSE.out.mono ?_
  rintro e w1 ⟨mo, mc, X, hX, rfl, ho, hb⟩
  have H1 : Hid (X = dnL h s ∧ w1.ownsRow w.heap.size 178 3 (.slice mo X.length mc) X.length (snv X) ∧ Below w.heap.size w w1) := ⟨hX, own_mono ho HB0.out.size, HB0.out.trans (hb.mono HB0.out.size)⟩
  clear hX ho hb
  go_wp2
  go_ret2
  exact ⟨mo, mc, X, H1.out.1, rfl, H1.out.2.1, H1.out.2.2⟩

end Go.Proofs.YtodilocmfdeehaaGreatDoor.Cb

namespace Go.Proofs.YtodilocmfdeehaaGreatDoor.Qy
open Hi Cb

abbrev Sn := Nat × Int × Bool
/-- the better meeting. -/
def bst (b : Option (Nat × Int)) (x y : Sn) : Option (Nat × Int) := if x.1 = y.1 then (match b with
  | none => some (x.1, x.2.1 + y.2.1)
  | some (r, d) => if x.2.1 + y.2.1 < d then some (x.1, x.2.1 + y.2.1) else some (r, d)) else b
def nearG : Nat → Option (Nat × Int) → List Sn → List Sn → Option (Nat × Int)
  | f + 1, b, x :: p, y :: q => nearG f (bst b x y) (if x.1 ≤ y.1 then p else x :: p) (if y.1 ≤ x.1 then q else y :: q)
  | _, b, _, _ => b
def near (p q : List Sn) : Option (Nat × Int) := nearG (p.length + q.length) none p q
theorem nearG_nil (f : Nat) (b : Option (Nat × Int)) (p q : List Sn) (h : p = [] ∨ q = []) : nearG f b p q = b := by
  rcases h with rfl | rfl
  · cases f <;> rfl
  · cases f <;> cases p <;> rfl
/-- every node has a rank. -/
theorem node_has {N : List Nat} (hc : cn N = (0, [])) {v : Nat} (hv : v < N.length) : ∃ r, r < N.length ∧ nth N r = v := by
  by_cases hex : ∃ r, r < N.length ∧ nth N r = v
  · exact hex
  · exfalso
    have hlt : ∀ r, r < N.length → nth N r < N.length := fun r hr => (cn_ok hc hr).1
    have hnd : (N ++ [v]).Nodup := by
      rw [List.nodup_append]
      refine ⟨?_, by simp, ?_⟩
      · unfold List.Nodup
        rw [List.pairwise_iff_getElem]
        intro i j hi hj hij e
        have e1 : N[i] = nth N i := by have := nth_get hi; rw [List.getElem?_eq_getElem hi] at this; exact Option.some.inj this
        have e2 : N[j] = nth N j := by have := nth_get hj; rw [List.getElem?_eq_getElem hj] at this; exact Option.some.inj this
        have e' : nth N i = nth N j := by rw [← e1, ← e2]; exact e
        have h1 := rkM_undo hc (k := i) (by omega)
        have h2 := rkM_undo hc hj
        rw [e', h2] at h1
        have := Option.some.inj h1
        omega
      · intro a ha b hb
        simp at hb
        subst hb
        obtain ⟨i, hi⟩ := List.mem_iff_getElem?.1 ha
        have hil := (List.getElem?_eq_some_iff.1 hi).1
        rintro rfl
        exact hex ⟨i, hil, nth_of hi⟩
    have := Hp.pigeon N.length (N ++ [v]) hnd (fun x hx => by
      rcases List.mem_append.1 hx with h | h
      · obtain ⟨i, hi⟩ := List.mem_iff_getElem?.1 h
        have hil := (List.getElem?_eq_some_iff.1 hi).1
        have := hlt i hil
        rw [nth_of hi] at this
        exact this
      · simp at h; omega)
    simp at this
    omega
/-- the rank of a node. -/
def rankOf (h : Hr) (v : Nat) : Nat := ((rkM h.node)[v]?).getD 0
theorem rank_node {h : Hr} (hc : chk h = (0, [])) {v : Nat} (hv : v < h.node.length) : rankOf h v < h.node.length ∧ (rkM h.node)[v]? = some (rankOf h v) := by
  obtain ⟨k1, k2, k3, k4, k5, k6, k7, k8⟩ := chk_ok hc
  obtain ⟨r, hr, e⟩ := node_has k7 hv
  have := rkM_undo k7 hr
  rw [e] at this
  unfold rankOf
  rw [this]
  exact ⟨hr, rfl⟩
theorem rank_of {h : Hr} (hc : chk h = (0, [])) {r : Nat} (hr : r < h.node.length) : rankOf h (nth h.node r) = r := by
  obtain ⟨k1, k2, k3, k4, k5, k6, k7, k8⟩ := chk_ok hc
  unfold rankOf
  rw [rkM_undo k7 hr]
  rfl
/-- what meet answers of two nodes of a hierarchy in form. -/
def meetL (h : Hr) (s t : Nat) : Option (Nat × Int) := near (upL h (rankOf h s)) (dnL h (rankOf h t))
end Go.Proofs.YtodilocmfdeehaaGreatDoor.Qy

namespace Go.Proofs.YtodilocmfdeehaaGreatDoor.Qy
open Go.RowKit Go.Extern Go.Shelf Hi Cb

attribute [local go_sem] Oper.semAt_some

/-- what is seen, in memory. -/
def HasSn (w : World) (lv : Value) (X : List Sn) : Prop :=
  ∃ ao cap, lv = .slice ao X.length cap ∧ X.length ≤ cap ∧ ∀ (j : Nat) (x : Sn), X[j]? = some x → ∃ b off, ao = some ⟨b, off, none⟩ ∧ b < w.heap.size ∧ w.cell? ⟨b, off + j * 3, none⟩ = some (.int .i64 (x.1 : Int)) ∧ w.cell? ⟨b, off + j * 3 + 1, none⟩ = some (.int .u64 x.2.1) ∧ w.cell? ⟨b, off + j * 3 + 2, none⟩ = some (.bool x.2.2)
theorem HasSn.keep {w w' : World} {lv : Value} {X : List Sn} (h : HasSn w lv X) (hb : Below w.heap.size w w') : HasSn w' lv X := by
  obtain ⟨ao, cap, e, hcap, hc⟩ := h
  refine ⟨ao, cap, e, hcap, fun j a hj => ?_⟩
  obtain ⟨b, off, ea, hl, h0, h1, h2⟩ := hc j a hj
  exact ⟨b, off, ea, Nat.lt_of_lt_of_le hl hb.size, (hb.cell (p := ⟨b, _, none⟩) hl).trans h0, (hb.cell (p := ⟨b, _, none⟩) hl).trans h1, (hb.cell (p := ⟨b, _, none⟩) hl).trans h2⟩
theorem sn_of_own {w : World} {B : Nat} {mo : Option Addr} {mc : Nat} {X : List Sn} (h : w.ownsRow B 178 3 (.slice mo X.length mc) X.length (snv X)) : HasSn w (.slice mo X.length mc) X := by
  rcases h.2 with ⟨e, h0⟩ | ⟨g, cap, cur, e, _, hh, hcap, _⟩
  · injection e with e1 _ e3
    obtain rfl : X = [] := List.eq_nil_of_length_eq_zero h0
    exact ⟨mo, mc, rfl, Nat.zero_le _, fun j x hj => by simp at hj⟩
  · injection e with e1 _ e3
    subst e1 e3
    refine ⟨_, mc, rfl, hcap, fun j x hj => ⟨g, 0, rfl, some_lt hh, ?_⟩⟩
    have hjl := (List.getElem?_eq_some_iff.1 hj).1
    obtain ⟨s0, s1, s2⟩ := snv_get X j x hj
    rw [Nat.zero_add]
    exact ⟨(h.cellAt (j * 3) (by omega)).trans s0, (h.cellAt (j * 3 + 1) (by omega)).trans s1, (h.cellAt (j * 3 + 2) (by omega)).trans s2⟩
theorem Tryz.elemSn : Tryz.prog.underlying 131 = some (.slice (Tryz.prog.elem 131)) := by kernel_rfl
theorem Tryz.sizeSn (w : World) : (sizeOf (Tryz.prog.elem 131)).run Tryz.prog w = .ok 3 w := by kernel_rfl
/-- all but the first. -/
theorem cut_sn (lo : Option Addr) (n cap : Nat) (hj : n + 1 ≤ cap) : ∃ so, (0 < n → ∀ b off, lo = some ⟨b, off, none⟩ → so = some ⟨b, off + 3, none⟩) ∧ ∀ w, (Instr.slice 131 (.slice lo (n + 1) cap) (some (.int .i64 1)) none none).run Tryz.prog w = .ok (.slice so n (cap - 1)) w := by
  refine ⟨if cap = 1 then lo else lo.map (·.add (1 * 3)), fun h b off e => ?_, fun w => ?_⟩
  · rw [if_neg (by omega), e]
    simp [Addr.add]
  · rw [run_slice_l (ht := Tryz.elemSn) (h0 := by omega) (h1 := by omega), Tryz.sizeSn]
    simp only [Result.andThen_ok, sliced]
    rfl
theorem sn_tail {w : World} {lo so : Option Addr} {cap : Nat} {x : Sn} {X : List Sn} (h : HasSn w (.slice lo (x :: X).length cap) (x :: X)) (hso : 0 < X.length → ∀ b off, lo = some ⟨b, off, none⟩ → so = some ⟨b, off + 3, none⟩) : HasSn w (.slice so X.length (cap - 1)) X := by
  obtain ⟨ao, cap', e, hcap, hc⟩ := h
  injection e with e1 e2 e3
  subst e1 e3
  refine ⟨so, cap - 1, rfl, by simp at hcap; omega, fun j y hj => ?_⟩
  have hjl := (List.getElem?_eq_some_iff.1 hj).1
  obtain ⟨b, off, ea, hl, h0, h1, h2⟩ := hc (j + 1) y (by simpa using hj)
  refine ⟨b, off + 3, hso (by omega) b off ea, hl, ?_, ?_, ?_⟩
  · rw [show off + 3 + j * 3 = off + (j + 1) * 3 by omega]; exact h0
  · rw [show off + 3 + j * 3 + 1 = off + (j + 1) * 3 + 1 by omega]; exact h1
  · rw [show off + 3 + j * 3 + 2 = off + (j + 1) * 3 + 2 by omega]; exact h2
theorem HasSn.cap {w : World} {ao : Option Addr} {n cap : Nat} {X : List Sn} (h : HasSn w (.slice ao n cap) X) : n ≤ cap := by
  obtain ⟨_, _, e, h, _⟩ := h
  injection e with _ e1 e2
  omega
theorem HasSn.at {w : World} {ao : Option Addr} {n cap : Nat} {X : List Sn} (h : HasSn w (.slice ao n cap) X) {j : Nat} {x : Sn} (hj : X[j]? = some x) :
    ∃ b off, ao = some ⟨b, off, none⟩ ∧ b < w.heap.size ∧ w.cell? ⟨b, off + j * 3, none⟩ = some (.int .i64 (x.1 : Int)) ∧ w.cell? ⟨b, off + j * 3 + 1, none⟩ = some (.int .u64 x.2.1) ∧ w.cell? ⟨b, off + j * 3 + 2, none⟩ = some (.bool x.2.2) := by
  obtain ⟨ao', cap', e, _, hc⟩ := h
  injection e with e1 e2 e3
  subst e1
  exact hc j x hj
/-- the best meeting, in cells. -/
def bestC : Option (Nat × Int) → Array Value
  | none => #[.int .i64 0, .int .u64 0]
  | some (r, d) => #[.int .i64 (r : Int), .int .u64 d]
def lenV : Value → Nat
  | .slice _ n _ => n
  | _ => 0
/-- while the lists are held against one another. -/
structure NI (w : World) (z : Nat) (p0 q0 : List Sn) (uo uc : _) (dv dc : _) (p q : List Sn) (b : Option (Nat × Int)) (wr : World) : Prop where
  up : ∀ wx, Below w.heap.size w wx → HasSn wx (.slice uo p.length uc) p
  dn : ∀ wx, Below w.heap.size w wx → HasSn wx (.slice dv q.length dc) q
  bel : Below w.heap.size w wr
  bz : wr.heap[z]? = some (.cells #[.int .i64 0, .int .u64 0] 127)
  by_ : wr.heap[z + 1]? = some (.cells (bestC b) 127)
  ran : ∃ f, p.length + q.length ≤ f ∧ nearG f b p q = near p0 q0
  pp : ∀ x ∈ p, 0 ≤ x.2.1 ∧ x.2.1 < 9223372036854775808
  pq : ∀ x ∈ q, 0 ≤ x.2.1 ∧ x.2.1 < 9223372036854775808

theorem ni_ran {b : Option (Nat × Int)} {x y : Sn} {p q : List Sn} {R : Option (Nat × Int)} (h : ∃ f, (x :: p).length + (y :: q).length ≤ f ∧ nearG f b (x :: p) (y :: q) = R) : ∃ f, (if x.1 ≤ y.1 then p else x :: p).length + (if y.1 ≤ x.1 then q else y :: q).length ≤ f ∧ nearG f (bst b x y) (if x.1 ≤ y.1 then p else x :: p) (if y.1 ≤ x.1 then q else y :: q) = R := by
  obtain ⟨f, hf, e⟩ := h
  obtain ⟨g, rfl⟩ : ∃ g, f = g + 1 := ⟨f - 1, by simp at hf; omega⟩
  refine ⟨g, ?_, by rw [nearG] at e; exact e⟩
  simp at hf
  rcases Nat.lt_trichotomy x.1 y.1 with h1 | h1 | h1
  · rw [if_pos (by omega), if_neg (by omega)]; simp; omega
  · rw [if_pos (by omega), if_pos (by omega)]; omega
  · rw [if_neg (by omega), if_pos (by omega)]; simp; omega
theorem near_res {W : World} {z : Nat} {x0 x1 u : Value} {tmps : Array Value} (h1 : W.heap[z]? = some (.cells #[x0, x1] 127)) (t6 : tmps[4]?.getD undef = .pointer (some ⟨z, 0, none⟩)) (t7 : tmps[5]?.getD undef = u) :
    (results Tryz.f93 tmps).run Tryz.prog W = .ok (.tuple #[.agg #[x0, x1], u]) W := by
  have c0 : W.cell? ⟨z, 0, none⟩ = some x0 := by simp [World.cell?, h1]
  have c1 : W.cell? ⟨z, 1, none⟩ = some x1 := by simp [World.cell?, h1]
  simp [results, Tryz.results93, go_sem, t6, t7, c0, c1]
theorem set_two {W : World} {b : Nat} {p q : Value} {T : TypeId} (h : W.heap[b]? = some (.cells #[p, q] T)) (x y : Value) : ((W.setCell ⟨b, 0, none⟩ x).setCell ⟨b, 1, none⟩ y).heap[b]? = some (.cells #[x, y] T) := by
  have hlt := some_lt h
  simp only [World.setCell, Array.getElem?_modify]
  simp [h]
theorem two_cells {w : World} {b : Nat} {T : TypeId} {a0 a1 : Value} (h : w.heap[b]? = some (.cells #[a0, a1] T)) : (w.cell? ⟨b, 0, none⟩ = some a0 ∧ w.cell? ⟨b, 1, none⟩ = some a1) ∧ w.frozen? ⟨b, 0, none⟩ = false ∧ w.frozen? ⟨b, 1, none⟩ = false := by simp [World.cell?, World.frozen?, h]
theorem two_far (W : World) (b k : Nat) (hk : k ≠ b) (x y : Value) : ((W.setCell ⟨b, 0, none⟩ x).setCell ⟨b, 1, none⟩ y).heap[k]? = W.heap[k]? := (Below.heap_setCell _ _ _ _ hk).trans (Below.heap_setCell _ _ _ _ hk)
variable {w : World} {z : Nat} {p0 q0 : List Sn} {uo dv : Option Addr} {uc dc : Nat} {b : Option (Nat × Int)} {wr W5 : World}
/-- a meeting is stored. -/
theorem NI.best {p q : List Sn} (hz : w.heap.size = z) (h : NI w z p0 q0 uo uc dv dc p q b wr) {a0 a1 : Value} (hb : bestC b = #[a0, a1]) (r : Nat) (d : Int) : ((wr.setCell ⟨z + 1, 0, none⟩ (.int .i64 (r : Int))).setCell ⟨z + 1, 1, none⟩ (.int .u64 d)).heap[z + 1]? = some (.cells (bestC (some (r, d))) 127) ∧ ((wr.setCell ⟨z + 1, 0, none⟩ (.int .i64 (r : Int))).setCell ⟨z + 1, 1, none⟩ (.int .u64 d)).heap[z]? = some (.cells #[.int .i64 0, .int .u64 0] 127) ∧ Below w.heap.size w ((wr.setCell ⟨z + 1, 0, none⟩ (.int .i64 (r : Int))).setCell ⟨z + 1, 1, none⟩ (.int .u64 d)) := by
  have g := h.by_
  rw [hb] at g
  exact ⟨set_two g _ _, (two_far wr (z + 1) z (by omega) _ _).trans h.bz, (h.bel.setCell (p := ⟨z + 1, 0, none⟩) (by show w.heap.size ≤ z + 1; omega) _).setCell (p := ⟨z + 1, 1, none⟩) (by show w.heap.size ≤ z + 1; omega) _⟩
theorem NI.below {p q : List Sn} (h : NI w z p0 q0 uo uc dv dc p q b wr) (hb : Below wr.heap.size wr W5) : NI w z p0 q0 uo uc dv dc p q b W5 :=
  ⟨h.up, h.dn, h.bel.trans (hb.mono h.bel.size), (hb.block _ (some_lt h.bz)).trans h.bz, (hb.block _ (some_lt h.by_)).trans h.by_, h.ran, h.pp, h.pq⟩
theorem bestC_two (b : Option (Nat × Int)) : ∃ a0 a1, bestC b = #[a0, a1] := by
  cases b with
  | none => exact ⟨_, _, rfl⟩
  | some rd => obtain ⟨r, d⟩ := rd; exact ⟨_, _, rfl⟩
/-- one step: the up list goes on. -/
theorem NI.left {xr yr : Nat} {xd yd : Int} {xb yb : Bool} {p q : List Sn} {su : Option Addr} (h : NI w z p0 q0 uo uc dv dc ((xr, xd, xb) :: p) ((yr, yd, yb) :: q) b wr) (hlt : xr < yr) (hu : ∀ wx, Below w.heap.size w wx → HasSn wx (.slice su p.length (uc - 1)) p) : NI w z p0 q0 su (uc - 1) dv dc p ((yr, yd, yb) :: q) b wr := by
  have g := ni_ran h.ran
  rw [if_pos (by show xr ≤ yr; omega), if_neg (by show ¬ yr ≤ xr; omega)] at g
  have e : bst b (xr, xd, xb) (yr, yd, yb) = b := by unfold bst; rw [if_neg (by show ¬ xr = yr; omega)]
  rw [e] at g
  exact ⟨hu, h.dn, h.bel, h.bz, h.by_, g, fun x hx => h.pp x (List.mem_cons_of_mem _ hx), h.pq⟩
theorem NI.right {xr yr : Nat} {xd yd : Int} {xb yb : Bool} {p q : List Sn} {sd : Option Addr} (h : NI w z p0 q0 uo uc dv dc ((xr, xd, xb) :: p) ((yr, yd, yb) :: q) b wr) (hlt : yr < xr) (hd : ∀ wx, Below w.heap.size w wx → HasSn wx (.slice sd q.length (dc - 1)) q) : NI w z p0 q0 uo uc sd (dc - 1) ((xr, xd, xb) :: p) q b wr := by
  have g := ni_ran h.ran
  rw [if_neg (by show ¬ xr ≤ yr; omega), if_pos (by show yr ≤ xr; omega)] at g
  have e : bst b (xr, xd, xb) (yr, yd, yb) = b := by unfold bst; rw [if_neg (by show ¬ xr = yr; omega)]
  rw [e] at g
  exact ⟨h.up, hd, h.bel, h.bz, h.by_, g, h.pp, fun x hx => h.pq x (List.mem_cons_of_mem _ hx)⟩
theorem NI.both {xr : Nat} {xd yd : Int} {xb yb : Bool} {p q : List Sn} {su sd : Option Addr} (h : NI w z p0 q0 uo uc dv dc ((xr, xd, xb) :: p) ((xr, yd, yb) :: q) b wr) (hu : ∀ wx, Below w.heap.size w wx → HasSn wx (.slice su p.length (uc - 1)) p) (hd : ∀ wx, Below w.heap.size w wx → HasSn wx (.slice sd q.length (dc - 1)) q) {b' : Option (Nat × Int)} (hb' : bst b (xr, xd, xb) (xr, yd, yb) = b') {W6 : World} (hbel : Below w.heap.size w W6) (hbz : W6.heap[z]? = some (.cells #[.int .i64 0, .int .u64 0] 127)) (hby : W6.heap[z + 1]? = some (.cells (bestC b') 127)) : NI w z p0 q0 su (uc - 1) sd (dc - 1) p q b' W6 := by
  have g := ni_ran h.ran
  rw [if_pos (by show xr ≤ xr; omega), if_pos (by show xr ≤ xr; omega), hb'] at g
  exact ⟨hu, hd, hbel, hbz, hby, g, fun x hx => h.pp x (List.mem_cons_of_mem _ hx), fun x hx => h.pq x (List.mem_cons_of_mem _ hx)⟩

set_option maxRecDepth 100000 in
set_option maxHeartbeats 8000000 in
theorem nearest_calls (uo : Option Addr) (uc : Nat) (dv : Option Addr) (dc : Nat) (p0 q0 : List Sn) (w : World) (hu : HasSn w (.slice uo p0.length uc) p0) (hd : HasSn w (.slice dv q0.length dc) q0) (hp : ∀ x ∈ p0, 0 ≤ x.2.1 ∧ x.2.1 < 9223372036854775808) (hq : ∀ x ∈ q0, 0 ≤ x.2.1 ∧ x.2.1 < 9223372036854775808) (hpl : p0.length ≤ 65536) (hql : q0.length ≤ 65536) :
    Calls Tryz.prog 93 #[.slice uo p0.length uc, .slice dv q0.length dc] w fun e w' => Below w.heap.size w w' ∧ ((near p0 q0 = none ∧ e = .returned (.tuple #[.agg #[.int .i64 0, .int .u64 0], .iface 61 (.int .i64 16)])) ∨ ∃ (r : Nat) (d : Int), near p0 q0 = some (r, d) ∧ e = .returned (.tuple #[.agg #[.int .i64 (r : Int), .int .u64 d], .nilIface])) := by
  obtain ⟨z, hz⟩ : ∃ z, w.heap.size = z := ⟨_, rfl⟩
  obtain ⟨W0, hW0⟩ : ∃ W0, (w.alloc (.cells #[.int .i64 0, .int .u64 0] 127)).alloc (.cells #[.int .i64 0, .int .u64 0] 127) = W0 := ⟨_, rfl⟩
  have hB0 : Below w.heap.size w W0 := by rw [← hW0]; exact ((Below.refl _ w).alloc (Nat.le_refl _) _).alloc (by simp) _
  have h0 : W0.heap[z]? = some (.cells #[.int .i64 0, .int .u64 0] 127) := by
    rw [← hW0, ← hz]; exact (Below.heap_alloc _ _ _ (by simp)).trans (heap_newW _ _)
  have h1 : W0.heap[z + 1]? = some (.cells #[.int .i64 0, .int .u64 0] 127) := by
    have g := heap_newW (w.alloc (.cells #[.int .i64 0, .int .u64 0] 127)) (.cells #[.int .i64 0, .int .u64 0] 127)
    rw [World.size_alloc, hW0, hz] at g
    exact g
  have HN0 : Hid (NI w z p0 q0 uo uc dv dc p0 q0 none W0) := ⟨fun wx hx => hu.keep hx, fun wx hx => hd.keep hx, hB0, h0, h1, ⟨p0.length + q0.length, Nat.le_refl _, rfl⟩, hp, hq⟩
  have HW0 : Hid ((w.alloc (.cells #[.int .i64 0, .int .u64 0] 127)).alloc (.cells #[.int .i64 0, .int .u64 0] 127) = W0) := hW0
  have HZ : Hid (w.heap.size = z) := hz
  clear hW0 hB0 h0 h1 hu hd hp hq
  go_enter Tryz.func93, Tryz.ntmps93
  go_upto_region 2 with fail
  rw [HW0.out]
  go_wp2_with fail
  go_loopw [0, 1, 7] (fun uv qv fv wr => ∃ (uo : Option Addr) (uc : Nat) (dv : Option Addr) (dc : Nat) (p q : List Sn) (b : Option (Nat × Int)), uv = .slice uo p.length uc ∧ qv = .slice dv q.length dc ∧ fv = .bool b.isSome ∧ p.length ≤ 65536 ∧ q.length ≤ 65536 ∧ Hid (NI w z p0 q0 uo uc dv dc p q b wr)) (fun uv qv _ _ => lenV uv + lenV qv)
  case atStart => exact ⟨uo, uc, dv, dc, p0, q0, none, rfl, rfl, rfl, hpl, hql, HN0.out⟩
  case round =>
    obtain ⟨uo, uc, dv, dc, p, q, b, rfl, rfl, rfl, hpl, hql, HN⟩ := hrel
    by_cases hemp : p = [] ∨ q = []
    · obtain ⟨f, _, hf⟩ := HN.out.ran
      rw [nearG_nil f b p q hemp] at hf
      have HR : Hid (b = near p0 q0) := hf
      obtain ⟨P, hP⟩ : ∃ P, p.length = P := ⟨_, rfl⟩
      obtain ⟨Q, hQ⟩ : ∃ Q, q.length = Q := ⟨_, rfl⟩
      have hg : (decide ((P : Int) > 0) = false ∧ decide (0 < P) = false) ∨ ((decide ((P : Int) > 0) = true ∧ decide (0 < P) = true) ∧ decide ((Q : Int) > 0) = false ∧ decide (0 < Q) = false) := by
        have h0 : P = 0 ∨ Q = 0 := by
          rcases hemp with rfl | rfl
          · exact Or.inl hP.symm
          · exact Or.inr hQ.symm
        by_cases h1 : P = 0
        · exact Or.inl ⟨decide_eq_false (by omega), decide_eq_false (by omega)⟩
        · exact Or.inr ⟨⟨decide_eq_true (by omega), decide_eq_true (by omega)⟩, decide_eq_false (by omega), decide_eq_false (by omega)⟩
      rw [hP, hQ]
      obtain ⟨⟨c0, c1⟩, f0, f1⟩ := two_cells HN.out.bz
      clear hf hemp
      cases b with
      | none =>
        rcases hg with ⟨i1, i1'⟩ | ⟨⟨i1, i1'⟩, i2, i2'⟩
        all_goals
          go_wp2
          exact bodyPost_ret (near_res (set_two HN.out.bz _ _) rfl rfl) rfl ⟨(HN.out.bel.setCell (p := ⟨z, 0, none⟩) (by show w.heap.size ≤ z; omega) _).setCell (p := ⟨z, 1, none⟩) (by show w.heap.size ≤ z; omega) _, Or.inl ⟨HR.out.symm, rfl⟩⟩
      | some rd =>
        obtain ⟨r, d⟩ := rd
        have hby : wr.heap[z + 1]? = some (.cells #[.int .i64 (r : Int), .int .u64 d] 127) := HN.out.by_
        obtain ⟨⟨d0, d1⟩, _, _⟩ := two_cells hby
        clear hby
        rcases hg with ⟨i1, i1'⟩ | ⟨⟨i1, i1'⟩, i2, i2'⟩
        all_goals
          go_wp2
          exact bodyPost_ret (near_res (set_two HN.out.bz _ _) rfl rfl) rfl ⟨(HN.out.bel.setCell (p := ⟨z, 0, none⟩) (by show w.heap.size ≤ z; omega) _).setCell (p := ⟨z, 1, none⟩) (by show w.heap.size ≤ z; omega) _, Or.inr ⟨r, d, HR.out.symm, rfl⟩⟩
    · obtain ⟨⟨xr, xd, xb⟩, p1, rfl⟩ : ∃ x p1, p = x :: p1 := by
        cases p with
        | nil => exact absurd (Or.inl rfl) hemp
        | cons x p1 => exact ⟨x, p1, rfl⟩
      obtain ⟨⟨yr, yd, yb⟩, q1, rfl⟩ : ∃ y q1, q = y :: q1 := by
        cases q with
        | nil => exact absurd (Or.inr rfl) hemp
        | cons x p1 => exact ⟨x, p1, rfl⟩
      have hu := HN.out.up wr HN.out.bel
      have hd := HN.out.dn wr HN.out.bel
      obtain ⟨ub, uoff, eu, hul, c0, c1, c2⟩ := hu.at (j := 0) (x := (xr, xd, xb)) rfl
      obtain ⟨db, doff, ed, hdl, d0, d1, d2⟩ := hd.at (j := 0) (x := (yr, yd, yb)) rfl
      rw [Nat.zero_mul, Nat.add_zero] at c0 c1 c2 d0 d1 d2
      obtain ⟨su, hsu, hcutu⟩ := cut_sn uo p1.length uc hu.cap
      obtain ⟨sd, hsd, hcutd⟩ := cut_sn dv q1.length dc hd.cap
      have HTU : Hid (∀ wx, Below w.heap.size w wx → HasSn wx (.slice su p1.length (uc - 1)) p1) := fun wx hx => sn_tail (HN.out.up wx hx) hsu
      have HTD : Hid (∀ wx, Below w.heap.size w wx → HasSn wx (.slice sd q1.length (dc - 1)) q1) := fun wx hx => sn_tail (HN.out.dn wx hx) hsd
      subst eu ed
      obtain ⟨m, hm⟩ : ∃ m, p1.length + 1 = m := ⟨_, rfl⟩
      obtain ⟨k, hk⟩ : ∃ k, q1.length + 1 = k := ⟨_, rfl⟩
      have i1 : decide ((m : Int) > 0) = true := by simp; omega
      have i2 : decide ((k : Int) > 0) = true := by simp; omega
      have i3 : (0 : Int) < (m : Int) := by omega
      have i4 : (0 : Int) < (k : Int) := by omega
      have hxb : 0 ≤ xd ∧ xd < 9223372036854775808 := HN.out.pp (xr, xd, xb) (List.mem_cons_self ..)
      have hyb : 0 ≤ yd ∧ yd < 9223372036854775808 := HN.out.pq (yr, yd, yb) (List.mem_cons_self ..)
      have i5 : IntKind.u64.wrap (xd + yd) = xd + yd := by rw [IntKind.wrap_u64]; omega
      simp only [List.length_cons] at hpl hql ⊢
      rw [hm] at hcutu hpl ⊢
      rw [hk] at hcutd hql ⊢
      clear hu hd hsu hsd hemp
      go_upto_region 4 with fail
      go_region_held3 (fun w' => (w'.cell? ⟨ub, uoff, none⟩ = some (.int .i64 (xr : Int)) ∧ w'.cell? ⟨ub, uoff + 1, none⟩ = some (.int .u64 xd) ∧ w'.cell? ⟨ub, uoff + 2, none⟩ = some (.bool xb)) ∧ w'.cell? ⟨db, doff, none⟩ = some (.int .i64 (yr : Int)) ∧ w'.cell? ⟨db, doff + 1, none⟩ = some (.int .u64 yd) ∧ w'.cell? ⟨db, doff + 2, none⟩ = some (.bool yb)) (go_keep) (fail)
      · obtain ⟨k8, hk8⟩ : ∃ k8, wr.heap.size = k8 := ⟨_, rfl⟩
        obtain ⟨k9, hk9⟩ : ∃ k9, wr.heap.size + 1 = k9 := ⟨_, rfl⟩
        obtain ⟨W5, hW5⟩ : ∃ W5, ((wr.alloc (.cells #[.int .i64 (xr : Int), .int .u64 xd, .bool xb] 178)).alloc (.cells #[.int .i64 (yr : Int), .int .u64 yd, .bool yb] 178)).drew = W5 := ⟨_, rfl⟩
        have HE : Hid (Below wr.heap.size wr W5 ∧ W5.heap[k8]? = some (.cells #[.int .i64 (xr : Int), .int .u64 xd, .bool xb] 178) ∧ W5.heap[k9]? = some (.cells #[.int .i64 (yr : Int), .int .u64 yd, .bool yb] 178)) := by
          have g2 : Below wr.heap.size wr W5 := by rw [← hW5]; exact (((Below.refl _ _).alloc (Nat.le_refl _) _).alloc (by simp) _).drew
          have ga : W5.heap[wr.heap.size]? = some (.cells #[.int .i64 (xr : Int), .int .u64 xd, .bool xb] 178) := by rw [← hW5]; exact (Below.heap_alloc _ _ _ (by simp)).trans (heap_newW _ _)
          have gb : W5.heap[wr.heap.size + 1]? = some (.cells #[.int .i64 (yr : Int), .int .u64 yd, .bool yb] 178) := by
            have g := heap_newW (wr.alloc (.cells #[.int .i64 (xr : Int), .int .u64 xd, .bool xb] 178)) (.cells #[.int .i64 (yr : Int), .int .u64 yd, .bool yb] 178)
            rw [World.size_alloc] at g
            rw [← hW5]
            exact g
          rw [← hk8, ← hk9]
          exact ⟨g2, ga, gb⟩
        have n8 : k8 ≠ z + 1 := by have := some_lt HN.out.by_; omega
        have n8' : z + 1 ≠ k8 := n8.symm
        have n9 : k9 ≠ z + 1 := by have := some_lt HN.out.by_; omega
        have n9' : z + 1 ≠ k9 := n9.symm
        (first | rw [hW5] | skip)
        rw [hk9, hk8]
        clear hk8 hk9 hW5
        have HN5 : Hid (NI w z p0 q0 (some ⟨ub, uoff, none⟩) uc (some ⟨db, doff, none⟩) dc ((xr, xd, xb) :: p1) ((yr, yd, yb) :: q1) b W5) := HN.out.below HE.out.1
        obtain ⟨e0, e1, e2⟩ := three_cells HE.out.2.1
        obtain ⟨g0, g1, g2⟩ := three_cells HE.out.2.2
        rcases Nat.lt_trichotomy xr yr with hlt | hlt | hlt
        · have j1 : ((xr : Int) == (yr : Int)) = false := by simp; omega
          have j2 : decide ((xr : Int) ≤ (yr : Int)) = true := by simp; omega
          have j3 : decide ((yr : Int) ≤ (xr : Int)) = false := by simp; omega
          have j4 : decide (xr ≤ yr) = true := by simp; omega
          have j5 : decide (yr ≤ xr) = false := by simp; omega
          have j6 : (xr == yr) = false := by simp; omega
          go_wp2
          go_roundw
          case rel => exact ⟨su, uc - 1, some ⟨db, doff, none⟩, dc, p1, (yr, yd, yb) :: q1, b, rfl, by rw [List.length_cons, hk], rfl, by omega, by simp; omega, HN5.out.left hlt HTU.out⟩
          case measure => simp [lenV]; omega
        · subst hlt
          have j1 : ((xr : Int) == (xr : Int)) = true := by simp
          have j2 : decide ((xr : Int) ≤ (xr : Int)) = true := by simp
          obtain ⟨b0, b1, hbc⟩ := bestC_two b
          have hby := HN5.out.by_
          cases b with
          | none =>
            obtain ⟨⟨s0, s1⟩, t0, t1⟩ := two_cells (a0 := .int .i64 0) (a1 := .int .u64 0) hby
            have HBB := NI.best HZ.out HN5.out rfl xr (xd + yd)
            have HBB' : Hid (type_of% HBB) := HBB
            clear hby hbc HBB
            go_wp2
            go_roundw
            case rel => exact ⟨su, uc - 1, sd, dc - 1, p1, q1, some (xr, xd + yd), rfl, rfl, rfl, by omega, by omega, HN5.out.both HTU.out HTD.out (by simp [bst]) HBB'.out.2.2 HBB'.out.2.1 HBB'.out.1⟩
            case measure => simp [lenV]; omega
          | some rd =>
            obtain ⟨r, d⟩ := rd
            obtain ⟨⟨s0, s1⟩, t0, t1⟩ := two_cells (a0 := .int .i64 (r : Int)) (a1 := .int .u64 d) hby
            have HBB := NI.best HZ.out HN5.out rfl xr (xd + yd)
            have HBB' : Hid (type_of% HBB) := HBB
            have HBY : Hid (W5.heap[z + 1]? = some (.cells (bestC (some (r, d))) 127)) := hby
            clear hby hbc HBB
            by_cases hsum : xd + yd < d
            · have j3 : decide (xd + yd < d) = true := by simpa using hsum
              go_wp2
              go_roundw
              case rel => exact ⟨su, uc - 1, sd, dc - 1, p1, q1, some (xr, xd + yd), rfl, rfl, rfl, by omega, by omega, HN5.out.both HTU.out HTD.out (by simp [bst, hsum]) HBB'.out.2.2 HBB'.out.2.1 HBB'.out.1⟩
              case measure => simp [lenV]; omega
            · have j3 : decide (xd + yd < d) = false := by simpa using hsum
              go_wp2
              go_roundw
              case rel => exact ⟨su, uc - 1, sd, dc - 1, p1, q1, some (r, d), rfl, rfl, rfl, by omega, by omega, HN5.out.both HTU.out HTD.out (by simp [bst, hsum]) HN5.out.bel HN5.out.bz HBY.out⟩
              case measure => simp [lenV]; omega
        · have j1 : ((xr : Int) == (yr : Int)) = false := by simp; omega
          have j2 : decide ((xr : Int) ≤ (yr : Int)) = false := by simp; omega
          have j3 : decide ((yr : Int) ≤ (xr : Int)) = true := by simp; omega
          have j4 : decide (xr ≤ yr) = false := by simp; omega
          have j5 : decide (yr ≤ xr) = true := by simp; omega
          have j6 : (xr == yr) = false := by simp; omega
          go_wp2
          go_roundw
          case rel => exact ⟨some ⟨ub, uoff, none⟩, uc, sd, dc - 1, (xr, xd, xb) :: p1, q1, b, by rw [List.length_cons, hm], rfl, rfl, by simp; omega, by omega, HN5.out.right hlt HTD.out⟩
          case measure => simp [lenV]; omega
      · obtain ⟨k8, hk8⟩ : ∃ k8, wr.heap.size + 1 = k8 := ⟨_, rfl⟩
        obtain ⟨k9, hk9⟩ : ∃ k9, wr.heap.size = k9 := ⟨_, rfl⟩
        obtain ⟨W5, hW5⟩ : ∃ W5, ((wr.alloc (.cells #[.int .i64 (yr : Int), .int .u64 yd, .bool yb] 178)).alloc (.cells #[.int .i64 (xr : Int), .int .u64 xd, .bool xb] 178)).drew = W5 := ⟨_, rfl⟩
        have HE : Hid (Below wr.heap.size wr W5 ∧ W5.heap[k8]? = some (.cells #[.int .i64 (xr : Int), .int .u64 xd, .bool xb] 178) ∧ W5.heap[k9]? = some (.cells #[.int .i64 (yr : Int), .int .u64 yd, .bool yb] 178)) := by
          have g2 : Below wr.heap.size wr W5 := by rw [← hW5]; exact (((Below.refl _ _).alloc (Nat.le_refl _) _).alloc (by simp) _).drew
          have ga : W5.heap[wr.heap.size]? = some (.cells #[.int .i64 (yr : Int), .int .u64 yd, .bool yb] 178) := by rw [← hW5]; exact (Below.heap_alloc _ _ _ (by simp)).trans (heap_newW _ _)
          have gb : W5.heap[wr.heap.size + 1]? = some (.cells #[.int .i64 (xr : Int), .int .u64 xd, .bool xb] 178) := by
            have g := heap_newW (wr.alloc (.cells #[.int .i64 (yr : Int), .int .u64 yd, .bool yb] 178)) (.cells #[.int .i64 (xr : Int), .int .u64 xd, .bool xb] 178)
            rw [World.size_alloc] at g
            rw [← hW5]
            exact g
          rw [← hk8, ← hk9]
          exact ⟨g2, gb, ga⟩
        have n8 : k8 ≠ z + 1 := by have := some_lt HN.out.by_; omega
        have n8' : z + 1 ≠ k8 := n8.symm
        have n9 : k9 ≠ z + 1 := by have := some_lt HN.out.by_; omega
        have n9' : z + 1 ≠ k9 := n9.symm
        (first | rw [hW5] | skip)
        rw [hk8, hk9]
        clear hk8 hk9 hW5
        have HN5 : Hid (NI w z p0 q0 (some ⟨ub, uoff, none⟩) uc (some ⟨db, doff, none⟩) dc ((xr, xd, xb) :: p1) ((yr, yd, yb) :: q1) b W5) := HN.out.below HE.out.1
        obtain ⟨e0, e1, e2⟩ := three_cells HE.out.2.1
        obtain ⟨g0, g1, g2⟩ := three_cells HE.out.2.2
        rcases Nat.lt_trichotomy xr yr with hlt | hlt | hlt
        · have j1 : ((xr : Int) == (yr : Int)) = false := by simp; omega
          have j2 : decide ((xr : Int) ≤ (yr : Int)) = true := by simp; omega
          have j3 : decide ((yr : Int) ≤ (xr : Int)) = false := by simp; omega
          have j4 : decide (xr ≤ yr) = true := by simp; omega
          have j5 : decide (yr ≤ xr) = false := by simp; omega
          have j6 : (xr == yr) = false := by simp; omega
          go_wp2
          go_roundw
          case rel => exact ⟨su, uc - 1, some ⟨db, doff, none⟩, dc, p1, (yr, yd, yb) :: q1, b, rfl, by rw [List.length_cons, hk], rfl, by omega, by simp; omega, HN5.out.left hlt HTU.out⟩
          case measure => simp [lenV]; omega
        · subst hlt
          have j1 : ((xr : Int) == (xr : Int)) = true := by simp
          have j2 : decide ((xr : Int) ≤ (xr : Int)) = true := by simp
          obtain ⟨b0, b1, hbc⟩ := bestC_two b
          have hby := HN5.out.by_
          cases b with
          | none =>
            obtain ⟨⟨s0, s1⟩, t0, t1⟩ := two_cells (a0 := .int .i64 0) (a1 := .int .u64 0) hby
            have HBB := NI.best HZ.out HN5.out rfl xr (xd + yd)
            have HBB' : Hid (type_of% HBB) := HBB
            clear hby hbc HBB
            go_wp2
            go_roundw
            case rel => exact ⟨su, uc - 1, sd, dc - 1, p1, q1, some (xr, xd + yd), rfl, rfl, rfl, by omega, by omega, HN5.out.both HTU.out HTD.out (by simp [bst]) HBB'.out.2.2 HBB'.out.2.1 HBB'.out.1⟩
            case measure => simp [lenV]; omega
          | some rd =>
            obtain ⟨r, d⟩ := rd
            obtain ⟨⟨s0, s1⟩, t0, t1⟩ := two_cells (a0 := .int .i64 (r : Int)) (a1 := .int .u64 d) hby
            have HBB := NI.best HZ.out HN5.out rfl xr (xd + yd)
            have HBB' : Hid (type_of% HBB) := HBB
            have HBY : Hid (W5.heap[z + 1]? = some (.cells (bestC (some (r, d))) 127)) := hby
            clear hby hbc HBB
            by_cases hsum : xd + yd < d
            · have j3 : decide (xd + yd < d) = true := by simpa using hsum
              go_wp2
              go_roundw
              case rel => exact ⟨su, uc - 1, sd, dc - 1, p1, q1, some (xr, xd + yd), rfl, rfl, rfl, by omega, by omega, HN5.out.both HTU.out HTD.out (by simp [bst, hsum]) HBB'.out.2.2 HBB'.out.2.1 HBB'.out.1⟩
              case measure => simp [lenV]; omega
            · have j3 : decide (xd + yd < d) = false := by simpa using hsum
              go_wp2
              go_roundw
              case rel => exact ⟨su, uc - 1, sd, dc - 1, p1, q1, some (r, d), rfl, rfl, rfl, by omega, by omega, HN5.out.both HTU.out HTD.out (by simp [bst, hsum]) HN5.out.bel HN5.out.bz HBY.out⟩
              case measure => simp [lenV]; omega
        · have j1 : ((xr : Int) == (yr : Int)) = false := by simp; omega
          have j2 : decide ((xr : Int) ≤ (yr : Int)) = false := by simp; omega
          have j3 : decide ((yr : Int) ≤ (xr : Int)) = true := by simp; omega
          have j4 : decide (xr ≤ yr) = false := by simp; omega
          have j5 : decide (yr ≤ xr) = true := by simp; omega
          have j6 : (xr == yr) = false := by simp; omega
          go_wp2
          go_roundw
          case rel => exact ⟨some ⟨ub, uoff, none⟩, uc, sd, dc - 1, (xr, xd, xb) :: p1, q1, b, by rw [List.length_cons, hm], rfl, rfl, by simp; omega, by omega, HN5.out.right hlt HTD.out⟩
          case measure => simp [lenV]; omega
end Go.Proofs.YtodilocmfdeehaaGreatDoor.Qy

namespace Go.Proofs.YtodilocmfdeehaaGreatDoor.Qy
open Go.RowKit Go.Extern Go.Shelf Hi Cb

attribute [local go_sem] Oper.semAt_some

/-- two nodes of a hierarchy in form. -/
def Nodes (h : Hr) (s t : Int) : Prop := chk h = (0, []) ∧ (0 ≤ s ∧ s < (h.node.length : Int)) ∧ (0 ≤ t ∧ t < (h.node.length : Int))
/-- the error of a question. -/
def qErr (h : Hr) (s t : Int) : Int × List (Int × Int) :=
  if chk h ≠ (0, []) then chk h else if ¬ (0 ≤ s ∧ s < (h.node.length : Int)) then (7, [(3, 0)]) else if ¬ (0 ≤ t ∧ t < (h.node.length : Int)) then (7, [(3, 1)]) else if meetL h s.toNat t.toNat = none then (16, []) else (0, [])
theorem qErr_chk {h : Hr} {s t : Int} (hc : chk h ≠ (0, [])) : qErr h s t = chk h := by unfold qErr; rw [if_pos hc]
theorem qErr_s {h : Hr} {s t : Int} (hc : chk h = (0, [])) (g : ¬ (0 ≤ s ∧ s < (h.node.length : Int))) : qErr h s t = (7, [(3, 0)]) := by unfold qErr; rw [if_neg (by simp [hc]), if_pos g]
theorem qErr_t {h : Hr} {s t : Int} (hc : chk h = (0, [])) (g1 : 0 ≤ s ∧ s < (h.node.length : Int)) (g : ¬ (0 ≤ t ∧ t < (h.node.length : Int))) : qErr h s t = (7, [(3, 1)]) := by unfold qErr; rw [if_neg (by simp [hc]), if_neg (fun q => q g1), if_pos g]
theorem qErr_no {h : Hr} {s t : Int} (hn : Nodes h s t) (g : meetL h s.toNat t.toNat = none) : qErr h s t = (16, []) := by unfold qErr; rw [if_neg (by simp [hn.1]), if_neg (fun q => q hn.2.1), if_neg (fun q => q hn.2.2), if_pos g]
theorem qErr_ok {h : Hr} {s t : Int} (hn : Nodes h s t) {x : Nat × Int} (g : meetL h s.toNat t.toNat = some x) : qErr h s t = (0, []) := by unfold qErr; rw [if_neg (by simp [hn.1]), if_neg (fun q => q hn.2.1), if_neg (fun q => q hn.2.2), if_neg (by simp [g])]
set_option maxRecDepth 100000 in
set_option maxHeartbeats 4000000 in
theorem ends_ok (v : HV) (h : Hr) (s t : Nat) (w : World) (hH : HasH w v h) (hc : chk h = (0, [])) (hs : s < h.node.length) (ht : t < h.node.length) :
    Calls Tryz.prog 92 #[hvl v h, .int .i64 (s : Int), .int .i64 (t : Int)] w fun e w' => e = .returned (.tuple #[.int .i64 (rankOf h s : Int), .int .i64 (rankOf h t : Int), .nilIface]) ∧ Below w.heap.size w w' := by
  obtain ⟨k1, k2, k3, k4, k5, k6, k7, k8⟩ := chk_ok hc
  obtain ⟨z, hz⟩ : ∃ z, w.heap.size = z := ⟨_, rfl⟩
  obtain ⟨W0, hW0⟩ : ∃ W0, w.alloc (.cells (cellsH v h) 25) = W0 := ⟨_, rfl⟩
  have hB0 : Below w.heap.size w W0 := by rw [← hW0]; exact (Below.refl _ _).alloc (Nat.le_refl _) _
  have h0 : W0.heap[z]? = some (.cells (cellsH v h) 25) := by rw [← hW0, ← hz]; exact heap_newW _ _
  obtain ⟨c0, c1, c2, c3, c4⟩ := five_cells h0
  have HRK : Hid (Calls Tryz.prog 110 #[hvl v h] W0 fun e w' => ∃ lo c, e = .returned (.tuple #[.slice lo h.node.length c, .nilIface]) ∧ HasInts w' (.slice lo h.node.length c) (intsL (rkM h.node)) ∧ Below W0.heap.size W0 w') := ranks_ok (hH.keep hB0) hc
  have HW0 : Hid (w.alloc (.cells (cellsH v h) 25) = W0) := hW0
  have HB0 : Hid (Below w.heap.size w W0) := hB0
  have e1 := (rank_node hc hs).2
  have e2 := (rank_node hc ht).2
  have HE : Hid ((intsL (rkM h.node))[s]? = some (rankOf h s : Int) ∧ (intsL (rkM h.node))[t]? = some (rankOf h t : Int)) := by
    unfold intsL
    rw [List.getElem?_map, List.getElem?_map, e1, e2]
    exact ⟨rfl, rfl⟩
  obtain ⟨n, hn⟩ : ∃ n, h.node.length = n := ⟨_, rfl⟩
  clear hW0 h0 hB0 hH hc e1 e2 k2 k3 k4 k5 k6 k7 k8
  unfold cellsH at HW0
  unfold hvl at HRK ⊢
  rw [hn] at HRK HW0 c0 hs ht k1 ⊢
  clear hn
  generalize rankOf h s = rs at *
  generalize rankOf h t = rt at *
  go_enter Tryz.func92, Tryz.ntmps92
  go_wp2_with fail
  rw [HW0.out]
  refine HRK.out.mono ?_
  rintro e w1 ⟨lo, lc, rfl, hI, hb1⟩
  have H1 : Hid (∀ wx, Below w1.heap.size w1 wx → HasInts wx (.slice lo n lc) (intsL (rkM h.node)) ∧ Below w.heap.size w wx) := fun wx hx => ⟨hI.keep hx, HB0.out.trans ((hb1.trans (hx.mono hb1.size)).mono HB0.out.size)⟩
  clear hI hb1 c0 c1 c2 c3 c4
  go_wp2_with fail
  obtain ⟨y, hy⟩ : ∃ y, w1.heap.size = y := ⟨_, rfl⟩
  obtain ⟨W2, hW2⟩ : ∃ W2, w1.alloc (.cells #[.int .i64 (s : Int), .int .i64 (t : Int)] 3) = W2 := ⟨_, rfl⟩
  have H2 : Hid (W2.heap[y]? = some (.cells #[.int .i64 (s : Int), .int .i64 (t : Int)] 3) ∧ Below w1.heap.size w1 W2) := by
    constructor
    · rw [← hW2, ← hy]; exact heap_newW _ _
    · rw [← hW2]; exact (Below.refl _ _).alloc (Nat.le_refl _) _
  rw [hW2, hy]
  clear hy hW2
  obtain ⟨⟨d0, d1⟩, _⟩ : (W2.cell? ⟨y, 0, none⟩ = some (.int .i64 (s : Int)) ∧ W2.cell? ⟨y, 1, none⟩ = some (.int .i64 (t : Int))) ∧ True := by simp [World.cell?, H2.out.1]
  go_loopw [25] (fun iv wr => ∃ j : Nat, j ≤ 2 ∧ iv = .int .i64 j ∧ wr = W2) (fun iv _ => 2 - (intOf iv).toNat)
  case atStart => exact ⟨0, by omega, rfl, rfl⟩
  case round =>
    obtain ⟨j, hj, rfl, rfl⟩ := hrel
    rcases (show j = 0 ∨ j = 1 ∨ j = 2 by omega) with rfl | rfl | rfl
    · have i1 : decide ((s : Int) < 0) = false := by simp
      have i2 : decide ((n : Int) ≤ (s : Int)) = false := by simp; omega
      go_wp2
      go_roundw
      case rel => exact ⟨1, by omega, by go_num, by first | rfl | trivial⟩
      case measure => simp [intOf]
    · have i1 : decide ((t : Int) < 0) = false := by simp
      have i2 : decide ((n : Int) ≤ (t : Int)) = false := by simp; omega
      go_wp2
      go_roundw
      case rel => exact ⟨2, by omega, by go_num, by first | rfl | trivial⟩
      case measure => simp [intOf]
    · obtain ⟨b1, o1, e1, _, g1⟩ := (H1.out wr H2.out.2).1.at HE.out.1
      obtain ⟨b2, o2, e2, _, g2⟩ := (H1.out wr H2.out.2).1.at HE.out.2
      subst e1
      cases e2
      have i1 : (s : Int) < (n : Int) := by omega
      have i2 : (0 : Int) ≤ (s : Int) := by omega
      have i3 : (t : Int) < (n : Int) := by omega
      have i4 : (0 : Int) ≤ (t : Int) := by omega
      go_wp2_with fail
      go_quiet (fail)
      go_wp2
      go_ret3
      have g := (H1.out wr H2.out.2).2
      exact ⟨rfl, ⟨g.os, g.tape, g.output, g.size, g.block⟩⟩

set_option maxRecDepth 100000 in
set_option maxHeartbeats 4000000 in
theorem ends_bad (v : HV) (h : Hr) (s t : Int) (w : World) (hH : HasH w v h) (hb1 : h.up.length ≤ 1152921504606846976) (hb2 : h.dn.length ≤ 1152921504606846976) (hb3 : h.node.length ≤ 1152921504606846976) (hno : ¬ Nodes h s t) :
    Calls Tryz.prog 92 #[hvl v h, .int .i64 s, .int .i64 t] w fun e w' => ∃ T x, e = .returned (.tuple #[.int .i64 0, .int .i64 0, .iface T x]) ∧ IsTold w' (qErr h s t) (.iface T x) ∧ Below w.heap.size w w' := by
  obtain ⟨z, hz⟩ : ∃ z, w.heap.size = z := ⟨_, rfl⟩
  obtain ⟨W0, hW0⟩ : ∃ W0, w.alloc (.cells (cellsH v h) 25) = W0 := ⟨_, rfl⟩
  have hB0 : Below w.heap.size w W0 := by rw [← hW0]; exact (Below.refl _ _).alloc (Nat.le_refl _) _
  have h0 : W0.heap[z]? = some (.cells (cellsH v h) 25) := by rw [← hW0, ← hz]; exact heap_newW _ _
  obtain ⟨c0, c1, c2, c3, c4⟩ := five_cells h0
  have HRK := ranks_calls v h W0 (hH.keep hB0) hb1 hb2 hb3
  have HRK' : Hid (type_of% HRK) := HRK
  have HW0 : Hid (w.alloc (.cells (cellsH v h) 25) = W0) := hW0
  have HB0 : Hid (Below w.heap.size w W0) := hB0
  have HNO : Hid (¬ Nodes h s t) := hno
  clear HRK hW0 h0 hB0 hH hno
  unfold cellsH at HW0
  unfold hvl at HRK' ⊢
  go_enter Tryz.func92, Tryz.ntmps92
  go_wp2_with fail
  rw [HW0.out]
  refine HRK'.out.mono ?_
  rintro e w1 ⟨lo, kk, lc, u, R, rfl, hb, hI, _, hh⟩
  have H1 : Hid (Below w.heap.size w w1) := HB0.out.trans (hb.mono HB0.out.size)
  clear c0 c1 c2 c3 c4 hb
  rcases hh with ⟨hc, rfl, rfl⟩ | ⟨hc, rfl, ht⟩
  · have hkk : kk = h.node.length := by
      obtain ⟨_, _, e, _⟩ := hI
      injection e with _ e _
      rw [e]
      unfold intsL
      rw [List.length_map, rkM_len]
    subst hkk
    obtain ⟨n, hn⟩ : ∃ n, h.node.length = n := ⟨_, rfl⟩
    have hno2 : ¬ ((0 ≤ s ∧ s < (n : Int)) ∧ (0 ≤ t ∧ t < (n : Int))) := fun g => HNO.out ⟨hc, by rw [hn]; exact g⟩
    rw [hn]
    have HQ1 : Hid (¬ (0 ≤ s ∧ s < (n : Int)) → qErr h s t = (7, [(3, 0)])) := fun g => qErr_s hc (by rw [hn]; exact g)
    have HQ2 : Hid ((0 ≤ s ∧ s < (n : Int)) → ¬ (0 ≤ t ∧ t < (n : Int)) → qErr h s t = (7, [(3, 1)])) := fun g1 g => qErr_t hc (by rw [hn]; exact g1) (by rw [hn]; exact g)
    clear hI hc hn HNO HRK'
    go_wp2_with fail
    obtain ⟨y, hy⟩ : ∃ y, w1.heap.size = y := ⟨_, rfl⟩
    obtain ⟨W2, hW2⟩ : ∃ W2, w1.alloc (.cells #[.int .i64 s, .int .i64 t] 3) = W2 := ⟨_, rfl⟩
    have H2 : Hid (W2.heap[y]? = some (.cells #[.int .i64 s, .int .i64 t] 3) ∧ Below w1.heap.size w1 W2) := by
      constructor
      · rw [← hW2, ← hy]; exact heap_newW _ _
      · rw [← hW2]; exact (Below.refl _ _).alloc (Nat.le_refl _) _
    rw [hW2, hy]
    clear hy hW2
    obtain ⟨⟨d0, d1⟩, _⟩ : (W2.cell? ⟨y, 0, none⟩ = some (.int .i64 s) ∧ W2.cell? ⟨y, 1, none⟩ = some (.int .i64 t)) ∧ True := by simp [World.cell?, H2.out.1]
    have HEND : Hid (∀ wx, Below W2.heap.size W2 wx → Below w.heap.size w wx) := fun wx hx => H1.out.trans ((H2.out.2.trans (hx.mono H2.out.2.size)).mono H1.out.size)
    go_loopw [25] (fun iv wr => ∃ j : Nat, j ≤ 1 ∧ iv = .int .i64 j ∧ wr = W2 ∧ (j = 1 → 0 ≤ s ∧ s < (n : Int))) (fun iv _ => 2 - (intOf iv).toNat)
    case atStart => exact ⟨0, by omega, rfl, rfl, fun e => by omega⟩
    case round =>
      obtain ⟨j, hj, rfl, rfl, hjs⟩ := hrel
      rcases (show j = 0 ∨ j = 1 by omega) with rfl | rfl
      · by_cases g : 0 ≤ s ∧ s < (n : Int)
        · have i1 : decide (s < 0) = false := by simp; omega
          have i2 : decide ((n : Int) ≤ s) = false := by simp; omega
          go_wp2
          go_roundw
          case rel => exact ⟨1, by omega, by go_num, by first | rfl | trivial, fun _ => g⟩
          case measure => simp [intOf]
        · by_cases g0 : s < 0
          · have i1 : decide (s < 0) = true := by simpa using g0
            go_wp2_with (go_at_call 84; refine (at_some _ _ _ _ _).mono ?_; rintro e w3 ⟨rfl, hw3⟩; have H3 : Hid (Below wr.heap.size wr w3) := (by rw [hw3]; exact (Below.refl _ _).alloc (Nat.le_refl _) _); have HT3 : Hid (IsTold w3 (7, [((3 : Int), (0 : Int))]) (.iface 79 (.pointer (some ⟨wr.heap.size, 0, none⟩)))) := (by rw [hw3]; exact told_at _ (by decide)); clear hw3)
            go_ret3
            exact ⟨_, _, rfl, by rw [HQ1.out g]; exact HT3.out, HEND.out _ H3.out⟩
          · have i1 : decide (s < 0) = false := by simpa using g0
            have i2 : decide ((n : Int) ≤ s) = true := by simp; omega
            go_wp2_with (go_at_call 84; refine (at_some _ _ _ _ _).mono ?_; rintro e w3 ⟨rfl, hw3⟩; have H3 : Hid (Below wr.heap.size wr w3) := (by rw [hw3]; exact (Below.refl _ _).alloc (Nat.le_refl _) _); have HT3 : Hid (IsTold w3 (7, [((3 : Int), (0 : Int))]) (.iface 79 (.pointer (some ⟨wr.heap.size, 0, none⟩)))) := (by rw [hw3]; exact told_at _ (by decide)); clear hw3)
            go_ret3
            exact ⟨_, _, rfl, by rw [HQ1.out g]; exact HT3.out, HEND.out _ H3.out⟩
      · have g : ¬ (0 ≤ t ∧ t < (n : Int)) := fun g => hno2 ⟨hjs rfl, g⟩
        have HJS : Hid (0 ≤ s ∧ s < (n : Int)) := hjs rfl
        by_cases g0 : t < 0
        · have i1 : decide (t < 0) = true := by simpa using g0
          go_wp2_with (go_at_call 84; refine (at_some _ _ _ _ _).mono ?_; rintro e w3 ⟨rfl, hw3⟩; have H3 : Hid (Below wr.heap.size wr w3) := (by rw [hw3]; exact (Below.refl _ _).alloc (Nat.le_refl _) _); have HT3 : Hid (IsTold w3 (7, [((3 : Int), (1 : Int))]) (.iface 79 (.pointer (some ⟨wr.heap.size, 0, none⟩)))) := (by rw [hw3]; exact told_at _ (by decide)); clear hw3)
          go_ret3
          exact ⟨_, _, rfl, by rw [HQ2.out HJS.out g]; exact HT3.out, HEND.out _ H3.out⟩
        · have i1 : decide (t < 0) = false := by simpa using g0
          have i2 : decide ((n : Int) ≤ t) = true := by simp; omega
          go_wp2_with (go_at_call 84; refine (at_some _ _ _ _ _).mono ?_; rintro e w3 ⟨rfl, hw3⟩; have H3 : Hid (Below wr.heap.size wr w3) := (by rw [hw3]; exact (Below.refl _ _).alloc (Nat.le_refl _) _); have HT3 : Hid (IsTold w3 (7, [((3 : Int), (1 : Int))]) (.iface 79 (.pointer (some ⟨wr.heap.size, 0, none⟩)))) := (by rw [hw3]; exact told_at _ (by decide)); clear hw3)
          go_ret3
          exact ⟨_, _, rfl, by rw [HQ2.out HJS.out g]; exact HT3.out, HEND.out _ H3.out⟩
  · obtain ⟨tt, xx, hu1, _⟩ := isTold_some ht hc
    subst hu1
    have HTT : Hid (IsTold w1 (qErr h s t) (.iface tt xx)) := by rw [qErr_chk hc]; exact ht
    clear ht hI
    go_wp2
    go_ret3
    exact ⟨tt, xx, rfl, HTT.out, H1.out⟩
end Go.Proofs.YtodilocmfdeehaaGreatDoor.Qy

namespace Go.Proofs.YtodilocmfdeehaaGreatDoor.Qy
open Go.RowKit Go.Extern Go.Shelf Hi Cb

attribute [local go_sem] Oper.semAt_some

theorem low_relaxs' {d : Int} {r : Nat} (hd : 0 ≤ d ∧ d ≤ (r : Int) * 140737488355328) : ∀ (row : List Lk) (vs : List (Option Int)), (∀ l ∈ row, r < l.hd ∧ l.wt ≤ 140737488355328) → Low vs → Low (relaxs d row vs)
  | [], vs, _, h => h
  | l :: t, vs, hr, h => by
    obtain ⟨h1, h2⟩ := hr l (List.mem_cons_self ..)
    exact low_relaxs' hd t (relax vs l.hd (d + l.wt)) (fun x hx => hr x (List.mem_cons_of_mem _ hx)) (low_relax h (by omega))
theorem run_low (N : Nat) (row : Nat → List Lk) (hrow : ∀ r, r < N → ∀ l ∈ row r, r < l.hd ∧ l.wt ≤ 140737488355328) : ∀ (m r : Nat) (vs : List (Option Int)) (out : List (Nat × Int)), r + m ≤ N → Low vs → (∀ x ∈ out, 0 ≤ x.2 ∧ x.2 ≤ (x.1 : Int) * 140737488355328) → ∀ x ∈ (run row m r vs out).2, 0 ≤ x.2 ∧ x.2 ≤ (x.1 : Int) * 140737488355328
  | 0, r, vs, out, _, _, ho, x, hx => ho x hx
  | m + 1, r, vs, out, hm, hv, ho, x, hx => by
    rw [run] at hx
    split at hx
    · rename_i d hd
      refine run_low N row hrow m (r + 1) _ _ (by omega) (low_relaxs' (hv _ _ hd) _ _ (hrow r (by omega)) hv) (fun y hy => ?_) x hx
      rcases List.mem_append.1 hy with h | h
      · exact ho y h
      · simp at h
        subst h
        exact hv _ _ hd
    · exact run_low N row hrow m (r + 1) _ _ (by omega) hv ho x hx
theorem climbed_bounds {n s : Nat} (hn : n ≤ 65536) (a b : Nat → List Lk) (ha : ∀ r, r < n → ∀ l ∈ a r, r < l.hd ∧ l.hd < n ∧ l.wt ≤ 140737488355328) : ∀ x ∈ climbed n s a b, 0 ≤ x.2.1 ∧ x.2.1 < 9223372036854775808 := by
  intro x hx
  unfold climbed at hx
  simp only at hx
  obtain ⟨y, hy, rfl⟩ := List.mem_map.1 hx
  have g := run_low n a (fun r hr l hl => ⟨(ha r hr l hl).1, (ha r hr l hl).2.2⟩) n 0 (Cb.start n s) [] (by omega) (low_start n s) (fun x hx => by simp at hx) y hy
  have g2 := run_out a n 0 (Cb.start n s) [] y hy
  have g3 : y.1 < n := by
    rcases g2 with g2 | g2
    · simp at g2
    · omega
  simp only
  omega
theorem climbed_len (n s : Nat) (a b : Nat → List Lk) : (climbed n s a b).length ≤ n := by
  unfold climbed
  rw [List.length_map]
  have := run_len a n 0 (Cb.start n s) []
  simpa using this
theorem up_bounds {h : Hr} (hc : chk h = (0, [])) (r : Nat) : (∀ x ∈ upL h r, 0 ≤ x.2.1 ∧ x.2.1 < 9223372036854775808) ∧ (upL h r).length ≤ 65536 := by
  have k1 := (chk_ok hc).1
  exact ⟨climbed_bounds k1 _ _ (fun r hr l hl => row_form hc hr (Or.inl hl)), Nat.le_trans (climbed_len _ _ _ _) k1⟩
theorem dn_bounds {h : Hr} (hc : chk h = (0, [])) (r : Nat) : (∀ x ∈ dnL h r, 0 ≤ x.2.1 ∧ x.2.1 < 9223372036854775808) ∧ (dnL h r).length ≤ 65536 := by
  have k1 := (chk_ok hc).1
  exact ⟨climbed_bounds k1 _ _ (fun r hr l hl => row_form hc hr (Or.inr hl)), Nat.le_trans (climbed_len _ _ _ _) k1⟩
/-- what meet answers. -/
def MR (h : Hr) (s t : Int) (r : Nat) (d : Int) (u : Value) : Prop :=
  (Nodes h s t ∧ meetL h s.toNat t.toNat = some (r, d) ∧ u = .nilIface) ∨ ((¬ Nodes h s t ∨ meetL h s.toNat t.toNat = none) ∧ r = 0 ∧ d = 0 ∧ ∃ T x, u = .iface T x)
theorem keeps_set2 {w : World} {b : Nat} {x y : Value} (h : w.heap[b]? = some (.cells #[x, y] 127)) (u v : Value) : Keeps w ((w.setCell ⟨b, 0, none⟩ u).setCell ⟨b, 1, none⟩ v) := fun k c hk => by
  have hne : k ≠ b := fun e => by
    subst e
    rw [h] at hk
    simp at hk
  exact (Below.heap_setCell _ _ _ _ hne).trans ((Below.heap_setCell _ _ _ _ hne).trans hk)
theorem meet_res {W : World} {z : Nat} {x0 x1 u : Value} {tmps : Array Value} (h1 : W.heap[z]? = some (.cells #[x0, x1] 127)) (t6 : tmps[6]?.getD undef = .pointer (some ⟨z, 0, none⟩)) (t7 : tmps[7]?.getD undef = u) :
    (results Tryz.f70 tmps).run Tryz.prog W = .ok (.tuple #[.agg #[x0, x1], u]) W := by
  have c0 : W.cell? ⟨z, 0, none⟩ = some x0 := by simp [World.cell?, h1]
  have c1 : W.cell? ⟨z, 1, none⟩ = some x1 := by simp [World.cell?, h1]
  simp [results, Tryz.results70, go_sem, t6, t7, c0, c1]
set_option maxRecDepth 100000 in
set_option maxHeartbeats 4000000 in
theorem meet_calls (v : HV) (h : Hr) (s t : Int) (w : World) (hH : HasH w v h) (hb1 : h.up.length ≤ 1152921504606846976) (hb2 : h.dn.length ≤ 1152921504606846976) (hb3 : h.node.length ≤ 1152921504606846976) :
    Calls Tryz.prog 70 #[hvl v h, .int .i64 s, .int .i64 t] w fun e w' => ∃ (r : Nat) (d : Int) (u : Value), (MR h s t r d u ∧ IsTold w' (qErr h s t) u) ∧ e = .returned (.tuple #[.agg #[.int .i64 (r : Int), .int .u64 d], u]) ∧ Below w.heap.size w w' := by
  obtain ⟨z, hz⟩ : ∃ z, w.heap.size = z := ⟨_, rfl⟩
  obtain ⟨W0, hW0⟩ : ∃ W0, (w.alloc (.cells (cellsH v h) 25)).alloc (.cells #[.int .i64 0, .int .u64 0] 127) = W0 := ⟨_, rfl⟩
  have hB0 : Below w.heap.size w W0 := by rw [← hW0]; exact ((Below.refl _ w).alloc (Nat.le_refl _) _).alloc (by simp) _
  have h0 : W0.heap[z]? = some (.cells (cellsH v h) 25) := by
    rw [← hW0, ← hz]; exact (Below.heap_alloc _ _ _ (by simp)).trans (heap_newW _ _)
  have h1 : W0.heap[z + 1]? = some (.cells #[.int .i64 0, .int .u64 0] 127) := by
    have g := heap_newW (w.alloc (.cells (cellsH v h) 25)) (.cells #[.int .i64 0, .int .u64 0] 127)
    rw [World.size_alloc, hW0, hz] at g
    exact g
  have HQ : Hid (∀ wx, Below W0.heap.size W0 wx → (wx.cell? ⟨z, 0, none⟩ = some (.slice v.no h.node.length v.nc) ∧ wx.cell? ⟨z, 1, none⟩ = some (.slice v.uo h.upF.length v.uc) ∧ wx.cell? ⟨z, 2, none⟩ = some (.slice v.ul h.up.length v.ulc) ∧ wx.cell? ⟨z, 3, none⟩ = some (.slice v.wo h.dnF.length v.wc) ∧ wx.cell? ⟨z, 4, none⟩ = some (.slice v.dl h.dn.length v.dlc)) ∧ wx.heap[z + 1]? = some (.cells #[.int .i64 0, .int .u64 0] 127) ∧ HasH wx v h ∧ Below w.heap.size w wx) := fun wx hx => by
    have g := hB0.trans (hx.mono hB0.size)
    exact ⟨five_cells ((hx.block _ (some_lt h0)).trans h0), (hx.block _ (some_lt h1)).trans h1, hH.keep g, g⟩
  have HEND : Hid (∀ wx, Below W0.heap.size W0 wx → ∀ x y : Value, ((wx.setCell ⟨z + 1, 0, none⟩ x).setCell ⟨z + 1, 1, none⟩ y).heap[z + 1]? = some (.cells #[x, y] 127) ∧ Below w.heap.size w ((wx.setCell ⟨z + 1, 0, none⟩ x).setCell ⟨z + 1, 1, none⟩ y)) := fun wx hx x y => ⟨set_two (HQ.out wx hx).2.1 x y, ((HQ.out wx hx).2.2.2.setCell (p := ⟨z + 1, 0, none⟩) (by show w.heap.size ≤ z + 1; omega) _).setCell (p := ⟨z + 1, 1, none⟩) (by show w.heap.size ≤ z + 1; omega) _⟩
  have HW0 : Hid ((w.alloc (.cells (cellsH v h) 25)).alloc (.cells #[.int .i64 0, .int .u64 0] 127) = W0) := hW0
  have HB0 : Hid (Below W0.heap.size W0 W0) := Below.refl _ _
  obtain ⟨⟨c0, c1, c2, c3, c4⟩, _⟩ := HQ.out W0 HB0.out
  clear hW0 h0 h1 hB0 hH
  unfold cellsH at HW0
  by_cases hn : Nodes h s t
  · obtain ⟨hc, hs, ht⟩ := hn
    obtain ⟨s', rfl⟩ : ∃ s' : Nat, s = (s' : Int) := ⟨s.toNat, by omega⟩
    obtain ⟨t', rfl⟩ : ∃ t' : Nat, t = (t' : Int) := ⟨t.toNat, by omega⟩
    have hs' : s' < h.node.length := by omega
    have ht' : t' < h.node.length := by omega
    have HND : Hid (Nodes h (s' : Int) (t' : Int)) := ⟨hc, hs, ht⟩
    have r1 := (rank_node hc hs').1
    have r2 := (rank_node hc ht').1
    obtain ⟨X, hX⟩ : ∃ X, upL h (rankOf h s') = X := ⟨_, rfl⟩
    obtain ⟨Y, hY⟩ : ∃ Y, dnL h (rankOf h t') = Y := ⟨_, rfl⟩
    have bX := up_bounds hc (rankOf h s')
    have bY := dn_bounds hc (rankOf h t')
    rw [hX] at bX
    rw [hY] at bY
    have HML : Hid (meetL h s' t' = near X Y) := by show _ = _; unfold meetL; rw [hX, hY]
    have K1 : Hid (∀ wx, Below W0.heap.size W0 wx → Calls Tryz.prog 92 #[hvl v h, .int .i64 (s' : Int), .int .i64 (t' : Int)] wx fun e w' => e = .returned (.tuple #[.int .i64 (rankOf h s' : Int), .int .i64 (rankOf h t' : Int), .nilIface]) ∧ Below wx.heap.size wx w') := fun wx hx => ends_ok v h s' t' wx (HQ.out wx hx).2.2.1 hc hs' ht'
    have K2 : Hid (∀ wx, Below W0.heap.size W0 wx → Calls Tryz.prog 72 #[hvl v h, .int .i64 (rankOf h s' : Int)] wx fun e w' => ∃ mo mc, e = .returned (.tuple #[.slice mo X.length mc, .nilIface]) ∧ w'.ownsRow wx.heap.size 178 3 (.slice mo X.length mc) X.length (snv X) ∧ Below wx.heap.size wx w') := fun wx hx => (up_ok v h _ wx (HQ.out wx hx).2.2.1 hc r1).mono (by rintro e w' ⟨mo, mc, X', e1, rfl, a, b⟩; rw [hX] at e1; subst e1; exact ⟨mo, mc, rfl, a, b⟩)
    have K3 : Hid (∀ wx, Below W0.heap.size W0 wx → Calls Tryz.prog 73 #[hvl v h, .int .i64 (rankOf h t' : Int)] wx fun e w' => ∃ mo mc, e = .returned (.tuple #[.slice mo Y.length mc, .nilIface]) ∧ w'.ownsRow wx.heap.size 178 3 (.slice mo Y.length mc) Y.length (snv Y) ∧ Below wx.heap.size wx w') := fun wx hx => (down_ok v h _ wx (HQ.out wx hx).2.2.1 hc r2).mono (by rintro e w' ⟨mo, mc, X', e1, rfl, a, b⟩; rw [hY] at e1; subst e1; exact ⟨mo, mc, rfl, a, b⟩)
    have HBD : Hid (((∀ x ∈ X, 0 ≤ x.2.1 ∧ x.2.1 < 9223372036854775808) ∧ X.length ≤ 65536) ∧ (∀ x ∈ Y, 0 ≤ x.2.1 ∧ x.2.1 < 9223372036854775808) ∧ Y.length ≤ 65536) := ⟨bX, bY⟩
    generalize rankOf h s' = rs at *
    generalize rankOf h t' = rt at *
    clear hc hs ht hs' ht' r1 r2 hX hY bX bY
    unfold hvl at K1 K2 K3 ⊢
    go_enter Tryz.func70, Tryz.ntmps70
    go_upto_region 1 with fail
    rw [HW0.out]
    go_wp2_with fail
    refine (K1.out W0 HB0.out).mono ?_
    rintro e w1 ⟨rfl, hbb1⟩
    have HB1 : Hid (Below W0.heap.size W0 w1) := btrH HB0.out hbb1
    clear hbb1 c0 c1 c2 c3 c4
    obtain ⟨⟨c0, c1, c2, c3, c4⟩, _⟩ := HQ.out w1 HB1.out
    go_wp2_with fail
    refine (K2.out w1 HB1.out).mono ?_
    rintro e w2 ⟨m2, c22, rfl, ho2, hbb2⟩
    have HB2 : Hid (Below W0.heap.size W0 w2) := btrH HB1.out hbb2
    have O2 : Hid (w2.ownsRow w1.heap.size 178 3 (.slice m2 X.length c22) X.length (snv X)) := ho2
    clear hbb2 ho2 c0 c1 c2 c3 c4
    obtain ⟨⟨c0, c1, c2, c3, c4⟩, _⟩ := HQ.out w2 HB2.out
    go_wp2_with fail
    refine (K3.out w2 HB2.out).mono ?_
    rintro e w3 ⟨m3, c33, rfl, ho3, hbb3⟩
    have HB3 : Hid (Below W0.heap.size W0 w3) := btrH HB2.out hbb3
    have HSX : Hid (HasSn w3 (.slice m2 X.length c22) X ∧ HasSn w3 (.slice m3 Y.length c33) Y) := ⟨(sn_of_own O2.out).keep hbb3, sn_of_own ho3⟩
    clear hbb3 ho3 c0 c1 c2 c3 c4
    go_wp2_with fail
    refine (nearest_calls m2 c22 m3 c33 X Y w3 HSX.out.1 HSX.out.2 HBD.out.1.1 HBD.out.2.1 HBD.out.1.2 HBD.out.2.2).mono ?_
    rintro e w4 ⟨hbb4, hcase⟩
    have HB4 : Hid (Below W0.heap.size W0 w4) := btrH HB3.out hbb4
    obtain ⟨⟨d0, d1⟩, f0, f1⟩ := two_cells (HQ.out w4 HB4.out).2.1
    rcases hcase with ⟨hnr, rfl⟩ | ⟨r, d, hnr, rfl⟩
    · have HNR : Hid (meetL h s' t' = none) := by show _ = _; rw [HML.out]; exact hnr
      clear hbb4 hnr
      go_wp2
      exact bodyPost_ret (meet_res (HEND.out w4 HB4.out _ _).1 rfl rfl) rfl ⟨0, 0, .iface 61 (.int .i64 16), ⟨Or.inr ⟨Or.inr HNR.out, rfl, rfl, _, _, rfl⟩, by rw [qErr_no HND.out HNR.out]; exact told_num _ (by decide)⟩, rfl, (HEND.out w4 HB4.out _ _).2⟩
    · have HNR : Hid (meetL h s' t' = some (r, d)) := by show _ = _; rw [HML.out]; exact hnr
      clear hbb4 hnr
      go_wp2
      exact bodyPost_ret (meet_res (HEND.out w4 HB4.out _ _).1 rfl rfl) rfl ⟨r, d, .nilIface, ⟨Or.inl ⟨HND.out, HNR.out, rfl⟩, by rw [qErr_ok HND.out HNR.out]; exact told_no _⟩, rfl, (HEND.out w4 HB4.out _ _).2⟩
  · have K1 : Hid (∀ wx, Below W0.heap.size W0 wx → Calls Tryz.prog 92 #[hvl v h, .int .i64 s, .int .i64 t] wx fun e w' => ∃ T x, e = .returned (.tuple #[.int .i64 0, .int .i64 0, .iface T x]) ∧ IsTold w' (qErr h s t) (.iface T x) ∧ Below wx.heap.size wx w') := fun wx hx => ends_bad v h s t wx (HQ.out wx hx).2.2.1 hb1 hb2 hb3 hn
    have HND : Hid (¬ Nodes h s t) := hn
    clear hn
    unfold hvl at K1 ⊢
    go_enter Tryz.func70, Tryz.ntmps70
    go_upto_region 1 with fail
    rw [HW0.out]
    go_wp2_with fail
    refine (K1.out W0 HB0.out).mono ?_
    rintro e w1 ⟨T, xx, rfl, htt, hbb1⟩
    have HTT : Hid (IsTold w1 (qErr h s t) (.iface T xx)) := htt
    clear htt
    have HB1 : Hid (Below W0.heap.size W0 w1) := btrH HB0.out hbb1
    obtain ⟨⟨d0, d1⟩, f0, f1⟩ := two_cells (HQ.out w1 HB1.out).2.1
    clear hbb1 c0 c1 c2 c3 c4
    go_wp2
    exact bodyPost_ret (meet_res (HEND.out w1 HB1.out _ _).1 rfl rfl) rfl ⟨0, 0, .iface T xx, ⟨Or.inr ⟨Or.inl HND.out, rfl, rfl, T, xx, rfl⟩, HTT.out.keep (keeps_set2 (HQ.out w1 HB1.out).2.1 _ _)⟩, rfl, (HEND.out w1 HB1.out _ _).2⟩
end Go.Proofs.YtodilocmfdeehaaGreatDoor.Qy

namespace Go.Proofs.YtodilocmfdeehaaGreatDoor.Qy
open Go.RowKit Go.Extern Go.Shelf Hi Cb

set_option maxRecDepth 100000 in
set_option maxHeartbeats 4000000 in
theorem meetR_calls (v : HV) (h : Hr) (s t : Int) (w : World) (hH : HasH w v h) (hb1 : h.up.length ≤ 1152921504606846976) (hb2 : h.dn.length ≤ 1152921504606846976) (hb3 : h.node.length ≤ 1152921504606846976) :
    Calls Tryz.prog 40 #[hvl v h, .int .i64 s, .int .i64 t] w fun e w' => ∃ (r : Nat) (d : Int) (u : Value), (MR h s t r d u ∧ IsTold w' (qErr h s t) u) ∧ e = .returned (.tuple #[.int .i64 (r : Int), u]) ∧ Below w.heap.size w w' := by
  obtain ⟨z, hz⟩ : ∃ z, w.heap.size = z := ⟨_, rfl⟩
  obtain ⟨W0, hW0⟩ : ∃ W0, w.alloc (.cells (cellsH v h) 25) = W0 := ⟨_, rfl⟩
  have hB0 : Below w.heap.size w W0 := by rw [← hW0]; exact (Below.refl _ w).alloc (Nat.le_refl _) _
  have h0 : W0.heap[z]? = some (.cells (cellsH v h) 25) := by rw [← hW0, ← hz]; exact heap_newW _ _
  obtain ⟨c0, c1, c2, c3, c4⟩ := five_cells h0
  have HW0 : Hid (w.alloc (.cells (cellsH v h) 25) = W0) := hW0
  have HB0 : Hid (Below w.heap.size w W0) := hB0
  have HME : Hid (Calls Tryz.prog 70 #[hvl v h, .int .i64 s, .int .i64 t] W0 fun e w' => ∃ (r : Nat) (d : Int) (u : Value), (MR h s t r d u ∧ IsTold w' (qErr h s t) u) ∧ e = .returned (.tuple #[.agg #[.int .i64 (r : Int), .int .u64 d], u]) ∧ Below W0.heap.size W0 w') := meet_calls v h s t W0 (hH.keep hB0) hb1 hb2 hb3
  clear hW0 h0 hB0 hH
  unfold cellsH at HW0
  unfold hvl at HME ⊢
  go_enter Tryz.func40, Tryz.ntmps40
  go_wp2_with fail
  rw [HW0.out]
  refine HME.out.mono ?_
  rintro e w1 ⟨r, d, u, hm, rfl, hb⟩
  have H1 : Hid ((MR h s t r d u ∧ IsTold w1 (qErr h s t) u) ∧ Below w.heap.size w w1) := ⟨hm, HB0.out.trans (hb.mono HB0.out.size)⟩
  clear hm hb
  go_wp2
  go_ret2
  exact ⟨r, d, u, ⟨H1.out.1.1, H1.out.1.2.keep (Below.keeps ((Below.refl _ _).alloc (Nat.le_refl _) _))⟩, rfl, H1.out.2.alloc H1.out.2.size _⟩

theorem meet_three : meetL three 0 2 = some (2, 5) ∧ meetL three 0 1 = some (1, 4) := by
  constructor <;> kernel_rfl
theorem mr_yes {h : Hr} {s t : Nat} (hc : chk h = (0, [])) (hs : s < h.node.length) (ht : t < h.node.length) {r0 : Nat} {d0 : Int} (hm : meetL h s t = some (r0, d0)) {r : Nat} {d : Int} {u : Value} (g : MR h (s : Int) (t : Int) r d u) : r = r0 ∧ d = d0 ∧ u = .nilIface := by
  have hn : Nodes h (s : Int) (t : Int) := ⟨hc, by omega, by omega⟩
  rcases g with ⟨_, e, hu⟩ | ⟨g, _⟩
  · rw [Int.toNat_natCast, Int.toNat_natCast, hm] at e
    have := Option.some.inj e
    simp only [Prod.mk.injEq] at this
    exact ⟨this.1.symm, this.2.symm, hu⟩
  · rcases g with g | g
    · exact absurd hn g
    · rw [Int.toNat_natCast, Int.toNat_natCast, hm] at g
      cases g
end Go.Proofs.YtodilocmfdeehaaGreatDoor.Qy
