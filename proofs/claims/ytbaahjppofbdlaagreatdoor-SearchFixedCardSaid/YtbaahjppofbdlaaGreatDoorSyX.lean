/- What SearchFixed asks: the example's distances from other nodes, its bounded searches, a line of a thousand nodes. search.Matrix where there are too many nodes. SearchFixed's parts: wrong arrays of one place. The calls that SearchFixed makes, each at its own numbers. -/
import Derived.Test.YtbaahjppofbdlaaGreatDoorSaX
import Derived.Test.YtbaahjppofbdlaaGreatDoorSdM
import Derived.Test.YtbaahjppofbdlaaGreatDoorSdC
import Derived.Test.YtbaahjppofbdlaaGreatDoorSpA
import Derived.KernelRfl
import Derived.Test.YtbaahjppofbdlaaGreatDoorScM
import Derived.Test.YtbaahjppofbdlaaGreatDoorScE
import Derived.Test.YtbaahjppofbdlaaGreatDoorCsrY
import Derived.Test.YtbaahjppofbdlaaGreatDoorSbE
import Derived.Test.YtbaahjppofbdlaaGreatDoorSmM
namespace Go.Proofs.YtbaahjppofbdlaaGreatDoor
open Go.RowKit Go.Extern

theorem dist8_3 : IsDist 4 Z8 3 [18446744073709551615, 18446744073709551615, 18446744073709551615, 0] := by
  have r0 : ReachN Z8 3 0 3 0 := ⟨rfl, rfl⟩
  have hc : cntD [18446744073709551615, 18446744073709551615, 18446744073709551615, 0] = 1 := by decide
  refine BF.dist fine8 ⟨rfl, rfl, fun v x hv => ?_⟩ ?_
  · rw [hc]
    rcases v with _ | _ | _ | _ | v
    · cases hv; exact Or.inl rfl
    · cases hv; exact Or.inl rfl
    · cases hv; exact Or.inl rfl
    · cases hv; exact Or.inr ⟨by omega, by omega, 0, r0⟩
    · simp at hv
  · intro a ha
    unfold Z8 at ha
    simp at ha
    rcases ha with rfl | rfl | rfl | rfl <;> (intro x y hx hy hne; cases hx; cases hy; first | decide | exact absurd rfl hne)
theorem dist8_2 : IsDist 4 Z8 2 [18446744073709551615, 18446744073709551615, 0, 2] := by
  have r0 : ReachN Z8 2 0 2 0 := ⟨rfl, rfl⟩
  have r1 : ReachN Z8 2 1 3 2 := ⟨2, 0, 2, r0, by decide, by decide⟩
  have hc : cntD [18446744073709551615, 18446744073709551615, 0, 2] = 2 := by decide
  refine BF.dist fine8 ⟨rfl, rfl, fun v x hv => ?_⟩ ?_
  · rw [hc]
    rcases v with _ | _ | _ | _ | v
    · cases hv; exact Or.inl rfl
    · cases hv; exact Or.inl rfl
    · cases hv; exact Or.inr ⟨by omega, by omega, 0, r0⟩
    · cases hv; exact Or.inr ⟨by omega, by omega, 1, r1⟩
    · simp at hv
  · intro a ha
    unfold Z8 at ha
    simp at ha
    rcases ha with rfl | rfl | rfl | rfl <;> (intro x y hx hy hne; cases hx; cases hy; first | decide | exact absurd rfl hne)

theorem PathTo.mem {zs : List (Int × Int × Int)} {s : Nat} : ∀ {P : List Nat} {d : Int}, PathTo zs s P d → s ∈ P
  | [], _, h => h.elim
  | [x], _, h => by simp [h.1]
  | x :: y :: r, _, ⟨_, _, _, _, h⟩ => List.mem_cons_of_mem _ (PathTo.mem h)
theorem path_self {zs : List (Int × Int × Int)} {s : Nat} {P : List Nat} {d : Int} (h : PathTo zs s P d) (h0 : P[0]? = some s) (hn : P.Nodup) : P = [s] := by
  match P, h with
  | [x], h => simp at h0; rw [h0]
  | x :: y :: r, ⟨_, _, _, _, h⟩ =>
    simp at h0
    subst h0
    exact absurd (PathTo.mem h) (List.nodup_cons.1 hn).1

theorem least4 {f : Int → Option Int} (o : List (Option Int)) (ho : ∀ e : Nat, e < 4 → f (e : Int) = o.getD e none) (v : Nat) (k : Int) (hv : v < 4) (hk : o.getD v none = some k) (hm : ∀ e : Nat, e < 4 → ∀ j : Int, o.getD e none = some j → ¬ Hp.ltT (j, (e : Int)) (k, (v : Int))) : Hp.Least 4 f v k :=
  ⟨hv, (ho v hv).trans hk, fun e j he hj => hm e he j ((ho e he).symm.trans hj)⟩
theorem four_cases {p : Nat → Prop} (h0 : p 0) (h1 : p 1) (h2 : p 2) (h3 : p 3) : ∀ e : Nat, e < 4 → p e := fun e he => by
  rcases (show e = 0 ∨ e = 1 ∨ e = 2 ∨ e = 3 by omega) with rfl | rfl | rfl | rfl
  · exact h0
  · exact h1
  · exact h2
  · exact h3
def r1a (S0 : FS) : FS := (S0.begin 4 0).step Z8 1 0 0
def r1b (S0 : FS) : FS := (r1a S0).step Z8 1 1 4
def r1c (S0 : FS) : FS := (r1b S0).step Z8 1 2 9
def r3a (S0 : FS) : FS := (S0.begin 4 0).step Z8 9 0 0
def r3b (S0 : FS) : FS := (r3a S0).step Z8 9 1 4
theorem lt_not {j k : Int} {e v : Nat} (h : k < j ∨ (k = j ∧ v ≤ e)) : ¬ Hp.ltT (j, (e : Int)) (k, (v : Int)) := by
  unfold Hp.ltT
  simp only
  omega
theorem beg_f (S0 : FS) : ∀ e : Nat, e < 4 → (S0.begin 4 0).f (e : Int) = ([some 0, none, none, none] : List (Option Int)).getD e none := four_cases (by kernel_rfl) (by kernel_rfl) (by kernel_rfl) (by kernel_rfl)
theorem r1a_f (S0 : FS) : ∀ e : Nat, e < 4 → (r1a S0).f (e : Int) = ([none, some 4, some 9, none] : List (Option Int)).getD e none := four_cases (by kernel_rfl) (by kernel_rfl) (by kernel_rfl) (by kernel_rfl)
theorem r1b_f (S0 : FS) : ∀ e : Nat, e < 4 → (r1b S0).f (e : Int) = ([none, none, some 9, none] : List (Option Int)).getD e none := four_cases (by kernel_rfl) (by kernel_rfl) (by kernel_rfl) (by kernel_rfl)
theorem r1c_f (S0 : FS) : ∀ e : Nat, e < 4 → (r1c S0).f (e : Int) = none := four_cases (by kernel_rfl) (by kernel_rfl) (by kernel_rfl) (by kernel_rfl)
theorem r3a_f (S0 : FS) : ∀ e : Nat, e < 4 → (r3a S0).f (e : Int) = ([none, some 4, some 9, none] : List (Option Int)).getD e none := four_cases (by kernel_rfl) (by kernel_rfl) (by kernel_rfl) (by kernel_rfl)
theorem r3b_f (S0 : FS) : ∀ e : Nat, e < 4 → (r3b S0).f (e : Int) = ([none, none, some 5, none] : List (Option Int)).getD e none := four_cases (by kernel_rfl) (by kernel_rfl) (by kernel_rfl) (by kernel_rfl)
theorem beg_least (S0 : FS) : Hp.Least 4 (S0.begin 4 0).f 0 0 := least4 _ (beg_f S0) 0 0 (by decide) rfl (four_cases (fun j h => by cases h; exact lt_not (by omega)) (fun j h => by cases h) (fun j h => by cases h) (fun j h => by cases h))
theorem r1a_least (S0 : FS) : Hp.Least 4 (r1a S0).f 1 4 := least4 _ (r1a_f S0) 1 4 (by decide) rfl (four_cases (fun j h => by cases h) (fun j h => by cases h; exact lt_not (by omega)) (fun j h => by cases h; exact lt_not (by omega)) (fun j h => by cases h))
theorem r1b_least (S0 : FS) : Hp.Least 4 (r1b S0).f 2 9 := least4 _ (r1b_f S0) 2 9 (by decide) rfl (four_cases (fun j h => by cases h) (fun j h => by cases h) (fun j h => by cases h; exact lt_not (by omega)) (fun j h => by cases h))
theorem r3a_least (S0 : FS) : Hp.Least 4 (r3a S0).f 1 4 := least4 _ (r3a_f S0) 1 4 (by decide) rfl (four_cases (fun j h => by cases h) (fun j h => by cases h; exact lt_not (by omega)) (fun j h => by cases h; exact lt_not (by omega)) (fun j h => by cases h))
theorem r3b_least (S0 : FS) : Hp.Least 4 (r3b S0).f 2 5 := least4 _ (r3b_f S0) 2 5 (by decide) rfl (four_cases (fun j h => by cases h) (fun j h => by cases h) (fun j h => by cases h; exact lt_not (by omega)) (fun j h => by cases h))
theorem bd1 {S0 S : FS} {t : Nat} (h : Steps 4 Z8 1 99 (S0.begin 4 0) t S) (e : RunEnd 4 9 99 t S) : labN S = [0, 1, 2] ∧ labCs S (labN S) = flat4 [(0, 0, 0, true), (1, 4, 1, true), (2, 9, 1, true)] := by
  have h' : Steps 4 Z8 1 99 (S0.begin 4 0) 3 (r1c S0) := ⟨r1b S0, 2, 9, ⟨r1a S0, 1, 4, ⟨S0.begin 4 0, 0, 0, rfl, beg_least S0, by decide, rfl⟩, r1a_least S0, by decide, rfl⟩, r1b_least S0, by decide, rfl⟩
  obtain ⟨_, rfl⟩ := run_unique h e h' (Or.inr (Or.inl ⟨r1c_f S0, Or.inr (by decide)⟩))
  exact ⟨by kernel_rfl, by kernel_rfl⟩
theorem bd2 {S0 S : FS} {t : Nat} (h : Steps 4 Z8 9 99 (S0.begin 4 0) t S) (e : RunEnd 4 0 99 t S) : labN S = [0] ∧ labCs S (labN S) = flat4 [(0, 0, 0, false)] := by
  obtain ⟨_, rfl⟩ := run_unique h e (show Steps 4 Z8 9 99 (S0.begin 4 0) 0 (S0.begin 4 0) from rfl) (Or.inl ⟨by decide, Or.inl rfl⟩)
  exact ⟨by kernel_rfl, by kernel_rfl⟩
theorem bd3 {S0 S : FS} {t : Nat} (h : Steps 4 Z8 9 4 (S0.begin 4 0) t S) (e : RunEnd 4 9 4 t S) : labN S = [0, 1, 2] ∧ labCs S (labN S) = flat4 [(0, 0, 0, true), (1, 4, 1, true), (2, 5, 2, false)] := by
  have h' : Steps 4 Z8 9 4 (S0.begin 4 0) 2 (r3b S0) := ⟨r3a S0, 1, 4, ⟨S0.begin 4 0, 0, 0, rfl, beg_least S0, by decide, rfl⟩, r3a_least S0, by decide, rfl⟩
  obtain ⟨_, rfl⟩ := run_unique h e h' (Or.inr (Or.inr ⟨2, 5, r3b_least S0, by decide, Or.inr (by decide)⟩))
  exact ⟨by kernel_rfl, by kernel_rfl⟩

/-- a line of so many arcs. -/
def lineA (m : Nat) : List (Int × Int × Int) := (List.range m).map fun (v : Nat) => ((v : Int), (v : Int) + 1, 2147483647)
theorem lineA_succ (m : Nat) : lineA (m + 1) = lineA m ++ [((m : Int), (m : Int) + 1, 2147483647)] := by simp [lineA, List.range_succ]
theorem lineA_len (m : Nat) : (lineA m).length = m := by simp [lineA]
theorem lineA_mem {m : Nat} {a : Int × Int × Int} (h : a ∈ lineA m) : ∃ v : Nat, v < m ∧ a = ((v : Int), (v : Int) + 1, 2147483647) := by
  unfold lineA at h
  obtain ⟨v, hv, rfl⟩ := List.mem_map.1 h
  exact ⟨v, List.mem_range.1 hv, rfl⟩
theorem lineA_in {m v : Nat} (h : v < m) : ((v : Int), (v : Int) + 1, 2147483647) ∈ lineA m := List.mem_map.2 ⟨v, List.mem_range.2 h, rfl⟩
theorem line_good : graphErr ((1000 : Nat) : Int) (lineA 999) = (0, []) := (good_iff _ _).2 ⟨by rw [lineA_len]; omega, fun a ha => by
  obtain ⟨v, hv, rfl⟩ := lineA_mem ha
  unfold arcBad
  simp only
  rw [if_neg (by omega), if_neg (by omega)]⟩
theorem line_norm (m : Nat) : normA (lineA m) = lineA m := (norm_self _).2 ⟨fun a ha => by
  obtain ⟨v, hv, rfl⟩ := lineA_mem ha
  simp only
  omega, by
  unfold RiseA lineA
  rw [List.pairwise_map]
  exact List.pairwise_lt_range.imp fun {a b} h => Or.inl (by show (a : Int) < (b : Int); omega)⟩
theorem line_fine : Fine 1000 (lineA 999) := by
  have := fine_norm line_good
  rwa [line_norm] at this
theorem line_only {m : Nat} : ∀ (k : Nat) (v d : Int), ReachN (lineA m) 0 k v d → v = (k : Int) ∧ d = (k : Int) * 2147483647
  | 0, v, d, ⟨h1, h2⟩ => ⟨h1, by omega⟩
  | k + 1, v, d, ⟨u, e, r, h1, h2, h3⟩ => by
    obtain ⟨g1, g2⟩ := line_only k u e h1
    obtain ⟨x, _, hx⟩ := lineA_mem h2
    injection hx with e1 e2
    injection e2 with e2 e3
    omega
theorem line_reach {m : Nat} : ∀ k : Nat, k ≤ m → ReachN (lineA m) 0 k (k : Int) ((k : Int) * 2147483647)
  | 0, _ => ⟨rfl, by omega⟩
  | k + 1, h => ⟨(k : Int), _, 2147483647, line_reach k (by omega), lineA_in (by omega), by omega⟩
theorem line_dist {D : List Int} (h : IsDist 1000 (lineA 999) 0 D) : D[999]? = some 2145336163353 := by
  obtain ⟨x, hx, g⟩ := h.2 999 (by omega)
  rw [hx]
  rcases g with ⟨_, _, ⟨k, hk⟩, _⟩ | ⟨_, g⟩
  · obtain ⟨e1, e2⟩ := line_only k _ _ hk
    congr 1
    omega
  · exact absurd ⟨999, line_reach 999 (by omega)⟩ (g _)
theorem line_path {m : Nat} : ∀ {P : List Nat} {d : Int} {v : Nat}, PathTo (lineA m) 0 P d → P[0]? = some v → P.length = v + 1
  | [], _, _, h, _ => h.elim
  | [x], d, v, ⟨h, _⟩, h0 => by
    simp at h0
    subst h0
    simp [h]
  | x :: y :: r, d, v, ⟨w, e, hw, _, h⟩, h0 => by
    simp at h0
    subst h0
    have ih := line_path h (v := y) rfl
    obtain ⟨u, _, hu⟩ := lineA_mem hw
    injection hu with e1 e2
    injection e2 with e2 e3
    rw [List.length_cons, ih]
    omega
theorem none_good : graphErr ((1025 : Nat) : Int) [] = (0, []) := (good_iff _ _).2 ⟨by simp, (fun a ha => by cases ha)⟩
theorem none_norm : normA [] = [] := (norm_self _).2 ⟨(fun a ha => by cases ha), List.Pairwise.nil⟩
theorem none_fine : Fine 1025 [] := ⟨List.Pairwise.nil, (fun a ha => by cases ha), by omega, by simp⟩
end Go.Proofs.YtbaahjppofbdlaaGreatDoor

namespace Go.Proofs.YtbaahjppofbdlaaGreatDoor
open Go.RowKit Go.Extern

attribute [local go_sem] Oper.semAt_some

set_option maxRecDepth 100000 in
set_option maxHeartbeats 8000000 in
theorem sMatrix_limit (n : Nat) (zs : List (Int × Int × Int)) (fo uo wo : Option Addr) (fc tc wc : Nat) (w : World) (hz : Fine n zs) (h : CsrIn w n zs fo uo wo fc tc wc) (hn : 1025 ≤ n) :
    Calls Tryz.prog 10 #[.agg #[.slice fo (n + 1) fc, .slice uo zs.length tc, .slice wo zs.length wc]] w fun e w' => e = .returned (.tuple #[.slice none 0 0, .iface 53 (.int .i64 9)]) ∧ Below w.heap.size w w' := by
  obtain ⟨W0, hW0⟩ : ∃ W0, w.alloc (.cells #[.slice fo (n + 1) fc, .slice uo zs.length tc, .slice wo zs.length wc] 29) = W0 := ⟨_, rfl⟩
  have HW0 : Hid (w.alloc (.cells #[.slice fo (n + 1) fc, .slice uo zs.length tc, .slice wo zs.length wc] 29) = W0) := hW0
  have hB0 : Below w.heap.size w W0 := by rw [← hW0]; exact (Below.refl _ w).alloc (Nat.le_refl _) _
  have HNF : Hid (Calls Tryz.prog 23 #[.agg #[.slice fo (n + 1) fc, .slice uo zs.length tc, .slice wo zs.length wc], .slice none 0 0] W0 fun e w' => ∃ L S, e = .returned (.tuple #[.pointer (some ⟨L.fi, 0, none⟩), .nilIface]) ∧ Fnd W0.heap.size w' n L (.slice fo (n + 1) fc) (.slice uo zs.length tc) (.slice wo zs.length wc) (.slice none 0 0) S ∧ Below W0.heap.size W0 w') := newFinder_good n zs fo uo wo fc tc wc W0 hz (h.keep hB0) none 0 [] ⟨none, 0, rfl, fun j q hj => by simp at hj⟩ (by simp) (fun v hv => by simp at hv)
  have HB0 : Hid (Below w.heap.size w W0) := hB0
  have hf := hz.few
  have hlo : (1025 : Int) * 1025 ≤ (n : Int) * (n : Int) := Int.mul_le_mul (by omega) (by omega) (by omega) (by omega)
  have hhi : (n : Int) * (n : Int) ≤ 65536 * 65536 := Int.mul_le_mul (by omega) (by omega) (by omega) (by omega)
  have hw : IntKind.i64.wrap ((n : Int) * (n : Int)) = (n : Int) * (n : Int) := by rw [IntKind.wrap_i64] <;> omega
  have hle : (1048576 : Int) < (n : Int) * (n : Int) := by omega
  clear hW0 hB0 h hz hlo hhi
  go_enter Tryz.func10, Tryz.ntmps10
  go_wp2_with fail
  rw [HW0.out]
  refine HNF.out.mono ?_
  rintro e w1 ⟨L, S, rfl, hF, hb1⟩
  have H1 : Hid (Fnd W0.heap.size w1 n L (.slice fo (n + 1) fc) (.slice uo zs.length tc) (.slice wo zs.length wc) (.slice none 0 0) S ∧ Below W0.heap.size W0 w1) := ⟨hF, hb1⟩
  clear hF hb1
  go_wp2_with fail
  refine (fnodes_calls H1.out.1).mono ?_
  rintro e w2 ⟨rfl, rfl⟩
  have HBZ : Hid (Below w.heap.size w w2) := btr HB0.out H1.out.2
  go_wp2
  go_ret2
  exact ⟨rfl, HBZ.out⟩
end Go.Proofs.YtbaahjppofbdlaaGreatDoor

namespace Go.Proofs.YtbaahjppofbdlaaGreatDoor
open Go.RowKit Go.Extern

theorem told_iface14 {w : World} {v : Value} (h : IsTold w (14, []) v) : v = .iface 53 (.int .i64 14) := by
  rcases h with ⟨h, _⟩ | ⟨_, h⟩
  · cases h
  · exact h
theorem from_shape (b : Nat) (w : World) (h : w.heap[b]? = some (.cells #[.int .i64 1] 3)) : Calls Tryz.prog 9 #[.agg #[.slice (some ⟨b, 0, none⟩) 1 1, .slice none 0 0, .slice none 0 0], .int .i64 0] w fun e w' => e = .returned (.tuple #[.slice none 0 0, .iface 53 (.int .i64 14)]) ∧ Below w.heap.size w w' := by
  have hl := lt_of_get h
  have hI : HasInts w (.slice (some ⟨b, 0, none⟩) 1 1) [1] := by
    refine ⟨_, _, rfl, fun j a hj => ?_⟩
    cases j with
    | zero =>
      cases hj
      exact ⟨b, 0, rfl, hl, by simp [World.cell?, h]⟩
    | succ j => simp at hj
  have hN : HasInts w (.slice none 0 0) [] := ⟨_, _, rfl, fun j a hj => by simp at hj⟩
  refine (sFrom_early (.slice (some ⟨b, 0, none⟩) 1 1) (.slice none 0 0) (.slice none 0 0) 0 w (14, []) fun wx hx => ?_).mono ?_
  · refine (check_any (some ⟨b, 0, none⟩) none none 1 1 0 0 0 0 [1] [] [] (14, []) wx (hI.keep hx) (hN.keep hx) (hN.keep hx) (by decide) (Or.inr (Or.inl ⟨0, rfl, Or.inl (by decide), rfl⟩))).mono ?_
    rintro e w' ⟨v, rfl, ht, hb⟩
    have := told_iface14 ht
    subst this
    exact ⟨_, _, rfl, ht, hb⟩
  · rintro e w' ⟨T, x, rfl, ht, hb⟩
    have := told_iface14 ht
    cases this
    exact ⟨rfl, hb⟩
end Go.Proofs.YtbaahjppofbdlaaGreatDoor

namespace Go.Proofs.YtbaahjppofbdlaaGreatDoor
open Go.RowKit Go.Extern

theorem from8_3 (fo uo wo : Option Addr) (fc tc wc : Nat) (w : World) (h : CsrIn w 4 Z8 fo uo wo fc tc wc) : Calls Tryz.prog 9 #[.agg #[.slice fo 5 fc, .slice uo 4 tc, .slice wo 4 wc], .int .i64 3] w fun e w' => ∃ db, e = .returned (.tuple #[.slice (some ⟨db, 0, none⟩) 4 4, .nilIface]) ∧ U64s w' db [18446744073709551615, 18446744073709551615, 18446744073709551615, 0] ∧ Below w.heap.size w w' := by
  refine (from_good 4 Z8 fo uo wo fc tc wc w fine8 h 3 (by omega)).mono ?_
  rintro e w' ⟨db, D, he, hD, hU, hb⟩
  obtain rfl := hD.unique dist8_3
  exact ⟨db, he, hU, hb⟩
theorem path8_22 (fo uo wo : Option Addr) (fc tc wc : Nat) (w : World) (h : CsrIn w 4 Z8 fo uo wo fc tc wc) : Calls Tryz.prog 12 #[.agg #[.slice fo 5 fc, .slice uo 4 tc, .slice wo 4 wc], .int .i64 2, .int .i64 2] w fun e w' => ∃ g pc, e = .returned (.tuple #[.slice (some ⟨g, 0, none⟩) 1 pc, .nilIface]) ∧ HasInts w' (.slice (some ⟨g, 0, none⟩) 1 pc) [2] ∧ Below w.heap.size w w' := by
  refine (path_good 4 Z8 fo uo wo fc tc wc w fine8 h 2 2 (by omega) (by omega)).mono ?_
  rintro e w' ⟨⟨D, hD, h⟩, hb⟩
  obtain rfl := hD.unique dist8_2
  rcases h with ⟨h, _⟩ | ⟨P, d, po, pc, _, _, hPT, hP0, ⟨hnd, _⟩, he, ho⟩
  · exact absurd h (by decide)
  · obtain rfl := path_self hPT hP0 hnd
    obtain ⟨g, cap, e2, hc⟩ := own_some ho (by decide)
    injection e2 with e3 e4 e5
    subst e3
    subst e5
    exact ⟨g, pc, he, ints_of_iown (l := [2]) ho, hb⟩
theorem path8_30 (fo uo wo : Option Addr) (fc tc wc : Nat) (w : World) (h : CsrIn w 4 Z8 fo uo wo fc tc wc) : Calls Tryz.prog 12 #[.agg #[.slice fo 5 fc, .slice uo 4 tc, .slice wo 4 wc], .int .i64 3, .int .i64 0] w fun e w' => e = .returned (.tuple #[.slice none 0 0, .iface 53 (.int .i64 16)]) ∧ Below w.heap.size w w' := by
  refine (path_good 4 Z8 fo uo wo fc tc wc w fine8 h 3 0 (by omega) (by omega)).mono ?_
  rintro e w' ⟨⟨D, hD, h⟩, hb⟩
  obtain rfl := hD.unique dist8_3
  rcases h with ⟨_, he⟩ | ⟨P, d, po, pc, hd, hne, _⟩
  · exact ⟨he, hb⟩
  · simp at hd
    exact absurd hd.symm hne
theorem from8_4 (fo uo wo : Option Addr) (fc tc wc : Nat) (w : World) (h : CsrIn w 4 Z8 fo uo wo fc tc wc) : Calls Tryz.prog 9 #[.agg #[.slice fo 5 fc, .slice uo 4 tc, .slice wo 4 wc], .int .i64 4] w fun e w' => e = .returned (.tuple #[.slice none 0 0, .iface 53 (.int .i64 7)]) ∧ Below w.heap.size w w' :=
  sFrom_node 4 Z8 fo uo wo fc tc wc w fine8 h 4 (by omega)
theorem path8_4 (fo uo wo : Option Addr) (fc tc wc : Nat) (w : World) (h : CsrIn w 4 Z8 fo uo wo fc tc wc) : Calls Tryz.prog 12 #[.agg #[.slice fo 5 fc, .slice uo 4 tc, .slice wo 4 wc], .int .i64 4, .int .i64 (-1)] w fun e w' => e = .returned (.tuple #[.slice none 0 0, .iface 53 (.int .i64 7)]) ∧ Below w.heap.size w w' :=
  sPath_node 4 Z8 fo uo wo fc tc wc w fine8 h 4 (-1) (by omega)
theorem path8_0 (fo uo wo : Option Addr) (fc tc wc : Nat) (w : World) (h : CsrIn w 4 Z8 fo uo wo fc tc wc) : Calls Tryz.prog 12 #[.agg #[.slice fo 5 fc, .slice uo 4 tc, .slice wo 4 wc], .int .i64 0, .int .i64 (-1)] w fun e w' => e = .returned (.tuple #[.slice none 0 0, .iface 53 (.int .i64 7)]) ∧ Below w.heap.size w w' :=
  sPath_node 4 Z8 fo uo wo fc tc wc w fine8 h 0 (-1) (by omega)
/-- where a list of labels stands. -/
theorem labs_cell {w : World} {B T lc : Nat} {lo : Option Addr} {l : List L4} {S : FS} (ho : w.ownsRow B T 4 (.slice lo (labN S).length lc) (labN S).length (labCs S (labN S))) (hl : (labN S).length = l.length) (hf : labCs S (labN S) = flat4 l) (h0 : 0 < l.length) : ∃ g, lo = some ⟨g, 0, none⟩ ∧ ∀ wx, Below w.heap.size w wx → g < wx.heap.size ∧ ∀ (j : Nat) (a : L4), l[j]? = some a → wx.cell? ⟨g, j * 4, none⟩ = some (.int .i64 a.1) ∧ wx.cell? ⟨g, j * 4 + 1, none⟩ = some (.int .u64 a.2.1) ∧ wx.cell? ⟨g, j * 4 + 2, none⟩ = some (.int .i64 a.2.2.1) ∧ wx.cell? ⟨g, j * 4 + 3, none⟩ = some (.bool a.2.2.2) := by
  rw [hl, hf] at ho
  have hL := labIn_of ho
  obtain ⟨g, e⟩ : ∃ g, lo = some ⟨g, 0, none⟩ := by
    rcases ho.2 with ⟨_, e⟩ | ⟨g, cap, cur, e, _⟩
    · omega
    · injection e with e1 _ _
      exact ⟨g, e1⟩
  subst e
  refine ⟨g, rfl, fun wx hx => ⟨?_, fun j a ha => ?_⟩⟩
  · obtain ⟨b, off, e, hlt, _⟩ := hL.keep hx 0 l[0] (List.getElem?_eq_getElem h0)
    injection e with e
    injection e with e1 e2
    subst e1
    exact hlt
  · obtain ⟨b, off, e, hlt, c⟩ := hL.keep hx j a ha
    injection e with e
    injection e with e1 e2
    subst e1
    subst e2
    simpa using c
theorem bounded8_1 (fo uo wo : Option Addr) (fc tc wc : Nat) (w : World) (h : CsrIn w 4 Z8 fo uo wo fc tc wc) : Calls Tryz.prog 11 #[.agg #[.slice fo 5 fc, .slice uo 4 tc, .slice wo 4 wc], .int .i64 0, .int .i64 1, .int .i64 9, .int .u64 99] w fun e w' => ∃ g lc, e = .returned (.tuple #[.slice (some ⟨g, 0, none⟩) 3 lc, .nilIface]) ∧ (∀ wx, Below w'.heap.size w' wx → g < wx.heap.size ∧ ∀ (j : Nat) (a : L4), ([(0, 0, 0, true), (1, 4, 1, true), (2, 9, 1, true)] : List L4)[j]? = some a → wx.cell? ⟨g, j * 4, none⟩ = some (.int .i64 a.1) ∧ wx.cell? ⟨g, j * 4 + 1, none⟩ = some (.int .u64 a.2.1) ∧ wx.cell? ⟨g, j * 4 + 2, none⟩ = some (.int .i64 a.2.2.1) ∧ wx.cell? ⟨g, j * 4 + 3, none⟩ = some (.bool a.2.2.2)) ∧ Below w.heap.size w w' := by
  refine (sBounded_good 4 Z8 fo uo wo fc tc wc w fine8 h 0 (by omega) 1 9 99).mono ?_
  rintro e w' ⟨S0, t, S, lo, lc, ⟨hst, hend⟩, he, ho, hb⟩
  obtain ⟨h1, h2⟩ := bd1 hst hend
  obtain ⟨g, rfl, hL⟩ := labs_cell ho (by rw [h1]; rfl) h2 (by decide)
  rw [h1] at he
  exact ⟨g, lc, he, hL, hb⟩
theorem bounded8_2 (fo uo wo : Option Addr) (fc tc wc : Nat) (w : World) (h : CsrIn w 4 Z8 fo uo wo fc tc wc) : Calls Tryz.prog 11 #[.agg #[.slice fo 5 fc, .slice uo 4 tc, .slice wo 4 wc], .int .i64 0, .int .i64 9, .int .i64 0, .int .u64 99] w fun e w' => ∃ g lc, e = .returned (.tuple #[.slice (some ⟨g, 0, none⟩) 1 lc, .nilIface]) ∧ (∀ wx, Below w'.heap.size w' wx → g < wx.heap.size ∧ ∀ (j : Nat) (a : L4), ([(0, 0, 0, false)] : List L4)[j]? = some a → wx.cell? ⟨g, j * 4, none⟩ = some (.int .i64 a.1) ∧ wx.cell? ⟨g, j * 4 + 1, none⟩ = some (.int .u64 a.2.1) ∧ wx.cell? ⟨g, j * 4 + 2, none⟩ = some (.int .i64 a.2.2.1) ∧ wx.cell? ⟨g, j * 4 + 3, none⟩ = some (.bool a.2.2.2)) ∧ Below w.heap.size w w' := by
  refine (sBounded_good 4 Z8 fo uo wo fc tc wc w fine8 h 0 (by omega) 9 0 99).mono ?_
  rintro e w' ⟨S0, t, S, lo, lc, ⟨hst, hend⟩, he, ho, hb⟩
  obtain ⟨h1, h2⟩ := bd2 hst hend
  obtain ⟨g, rfl, hL⟩ := labs_cell ho (by rw [h1]; rfl) h2 (by decide)
  rw [h1] at he
  exact ⟨g, lc, he, hL, hb⟩
theorem bounded8_3 (fo uo wo : Option Addr) (fc tc wc : Nat) (w : World) (h : CsrIn w 4 Z8 fo uo wo fc tc wc) : Calls Tryz.prog 11 #[.agg #[.slice fo 5 fc, .slice uo 4 tc, .slice wo 4 wc], .int .i64 0, .int .i64 9, .int .i64 9, .int .u64 4] w fun e w' => ∃ g lc, e = .returned (.tuple #[.slice (some ⟨g, 0, none⟩) 3 lc, .nilIface]) ∧ (∀ wx, Below w'.heap.size w' wx → g < wx.heap.size ∧ ∀ (j : Nat) (a : L4), ([(0, 0, 0, true), (1, 4, 1, true), (2, 5, 2, false)] : List L4)[j]? = some a → wx.cell? ⟨g, j * 4, none⟩ = some (.int .i64 a.1) ∧ wx.cell? ⟨g, j * 4 + 1, none⟩ = some (.int .u64 a.2.1) ∧ wx.cell? ⟨g, j * 4 + 2, none⟩ = some (.int .i64 a.2.2.1) ∧ wx.cell? ⟨g, j * 4 + 3, none⟩ = some (.bool a.2.2.2)) ∧ Below w.heap.size w w' := by
  refine (sBounded_good 4 Z8 fo uo wo fc tc wc w fine8 h 0 (by omega) 9 9 4).mono ?_
  rintro e w' ⟨S0, t, S, lo, lc, ⟨hst, hend⟩, he, ho, hb⟩
  obtain ⟨h1, h2⟩ := bd3 hst hend
  obtain ⟨g, rfl, hL⟩ := labs_cell ho (by rw [h1]; rfl) h2 (by decide)
  rw [h1] at he
  exact ⟨g, lc, he, hL, hb⟩
theorem line_build {w : World} {ao : Option Addr} {cap : Nat} (hl : HasArcs w (.slice ao 999 cap) (lineA 999)) : Calls Tryz.prog 7 #[.agg #[.int .i64 1000, .slice ao 999 cap]] w fun e w' => ∃ F T V, e = .returned (.tuple #[.agg #[.slice (some ⟨F, 0, none⟩) 1001 1001, .slice (some ⟨T, 0, none⟩) 999 999, .slice (some ⟨V, 0, none⟩) 999 999], .nilIface]) ∧ CsrIn w' 1000 (lineA 999) (some ⟨F, 0, none⟩) (some ⟨T, 0, none⟩) (some ⟨V, 0, none⟩) 1001 999 999 ∧ Below w.heap.size w w' := by
  have h := build_csr (n := 1000) hl line_good
  rw [line_norm, lineA_len] at h
  exact h
theorem line_from (fo uo wo : Option Addr) (fc tc wc : Nat) (w : World) (h : CsrIn w 1000 (lineA 999) fo uo wo fc tc wc) : Calls Tryz.prog 9 #[.agg #[.slice fo 1001 fc, .slice uo 999 tc, .slice wo 999 wc], .int .i64 0] w fun e w' => ∃ db, e = .returned (.tuple #[.slice (some ⟨db, 0, none⟩) 1000 1000, .nilIface]) ∧ (∀ wx, Below w'.heap.size w' wx → wx.cell? ⟨db, 999, none⟩ = some (.int .u64 2145336163353) ∧ db < wx.heap.size) ∧ Below w.heap.size w w' := by
  have h' := from_good 1000 (lineA 999) fo uo wo fc tc wc w line_fine h 0 (by omega)
  rw [lineA_len] at h'
  refine h'.mono ?_
  rintro e w' ⟨db, D, he, hD, hU, hb⟩
  refine ⟨db, he, fun wx hx => ?_, hb⟩
  have hU' : U64s wx db D := (hx.block _ (lt_of_get hU)).trans hU
  obtain ⟨q0, ql, _⟩ := hU'.at (line_dist hD)
  exact ⟨q0, ql⟩
theorem line_way (fo uo wo : Option Addr) (fc tc wc : Nat) (w : World) (h : CsrIn w 1000 (lineA 999) fo uo wo fc tc wc) : Calls Tryz.prog 12 #[.agg #[.slice fo 1001 fc, .slice uo 999 tc, .slice wo 999 wc], .int .i64 0, .int .i64 999] w fun e w' => ∃ po pc, e = .returned (.tuple #[.slice po 1000 pc, .nilIface]) ∧ Below w.heap.size w w' := by
  have h' := path_good 1000 (lineA 999) fo uo wo fc tc wc w line_fine h 0 999 (by omega) (by omega)
  rw [lineA_len] at h'
  refine h'.mono ?_
  rintro e w' ⟨⟨D, hD, h⟩, hb⟩
  rcases h with ⟨h, _⟩ | ⟨P, d, po, pc, _, _, hPT, hP0, _, he, _⟩
  · rw [line_dist hD] at h
    exact absurd h (by decide)
  · rw [line_path hPT hP0] at he
    exact ⟨po, pc, he, hb⟩
theorem none_build (w : World) : Calls Tryz.prog 7 #[.agg #[.int .i64 1025, .slice none 0 0]] w fun e w' => ∃ F T V, e = .returned (.tuple #[.agg #[.slice (some ⟨F, 0, none⟩) 1026 1026, .slice (some ⟨T, 0, none⟩) 0 0, .slice (some ⟨V, 0, none⟩) 0 0], .nilIface]) ∧ CsrIn w' 1025 [] (some ⟨F, 0, none⟩) (some ⟨T, 0, none⟩) (some ⟨V, 0, none⟩) 1026 0 0 ∧ Below w.heap.size w w' := by
  have h := build_csr (n := 1025) (xs := []) (w := w) (ao := none) (k := 0) (cap := 0) ⟨none, 0, rfl, fun j a hj => by simp at hj⟩ none_good
  rw [none_norm] at h
  exact h
theorem none_matrix (fo uo wo : Option Addr) (fc tc wc : Nat) (w : World) (h : CsrIn w 1025 [] fo uo wo fc tc wc) : Calls Tryz.prog 10 #[.agg #[.slice fo 1026 fc, .slice uo 0 tc, .slice wo 0 wc]] w fun e w' => e = .returned (.tuple #[.slice none 0 0, .iface 53 (.int .i64 9)]) ∧ Below w.heap.size w w' :=
  sMatrix_limit 1025 [] fo uo wo fc tc wc w none_fine h (by omega)
end Go.Proofs.YtbaahjppofbdlaaGreatDoor
