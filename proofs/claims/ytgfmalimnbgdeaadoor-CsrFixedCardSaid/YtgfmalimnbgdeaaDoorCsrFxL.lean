/- The calls of the closed law CsrFixed, each at the arrays it hands over. -/
import Derived.Test.YtgfmalimnbgdeaaDoorCsrCk
import Derived.Test.YtgfmalimnbgdeaaDoorCsrWake
import Derived.Test.YtgfmalimnbgdeaaDoorDocCheck
namespace Go.Proofs.YtgfmalimnbgdeaaDoor
open Go.RowKit Go.Extern

def xsB : List (Int × Int × Int) := [(2, 0, 5), (0, 1, 4), (0, 2, 1)]
def zsB : List (Int × Int × Int) := [(0, 2, 5), (1, 0, 4), (2, 0, 1)]
theorem xsB_good : graphErr ((3 : Nat) : Int) xsB = (0, []) := by kernel_rfl
theorem xsB_norm : normA (xsB.map turn) = zsB := by kernel_rfl
theorem zsB_fine : Fine 3 zsB := by
  have h := fine_norm (good_turn xsB_good)
  rw [xsB_norm] at h
  exact h
theorem none_good0 : graphErr ((0 : Nat) : Int) [] = (0, []) := by kernel_rfl
theorem arcs_none (w : World) : HasArcs w (.slice none 0 0) [] := ⟨none, 0, rfl, fun j a hj => by simp at hj⟩
theorem ints_none (w : World) : HasInts w (.slice none 0 0) [] := ⟨none, 0, rfl, fun j a hj => by simp at hj⟩
theorem rows_in {w' : World} {n : Nat} {zs : List (Int × Int × Int)} {F T V : Nat} (hf : IntRow w' F (n + 1) (fun u => firstAt zs u)) (ht : IntRow w' T zs.length (fun i => (tos zs).getD i 0)) (hv : IntRow w' V zs.length (fun i => (weights zs).getD i 0)) : CsrIn w' n zs (some ⟨F, 0, none⟩) (some ⟨T, 0, none⟩) (some ⟨V, 0, none⟩) (n + 1) zs.length zs.length := by
  refine ⟨hf.ints (n + 1) (firsts_len n zs) fun i a hi => ?_, ht.ints zs.length (tos_len zs) fun i a hi => ?_, hv.ints zs.length (weights_len zs) fun i a hi => ?_⟩
  · have hl := (List.getElem?_eq_some_iff.1 hi).1
    rw [firsts_len] at hl
    rw [firsts_at zs (show i ≤ n by omega)] at hi
    exact Option.some.inj hi
  · show (tos zs).getD i 0 = a
    rw [List.getD_eq_getElem?_getD, hi]; rfl
  · show (weights zs).getD i 0 = a
    rw [List.getD_eq_getElem?_getD, hi]; rfl
theorem back_lit (w : World) (b : Nat) (h : w.heap[b]? = some (.cells #[.int .i64 2, .int .i64 0, .int .i64 5, .int .i64 0, .int .i64 1, .int .i64 4, .int .i64 0, .int .i64 2, .int .i64 1] 63)) :
    Calls Tryd.prog 14 #[.agg #[.int .i64 3, .slice (some ⟨b, 0, none⟩) 3 3]] w fun e w' => ∃ F T V, e = .returned (.tuple #[.agg #[.slice (some ⟨F, 0, none⟩) 4 4, .slice (some ⟨T, 0, none⟩) 3 3, .slice (some ⟨V, 0, none⟩) 3 3], .nilIface]) ∧ CsrIn w' 3 zsB (some ⟨F, 0, none⟩) (some ⟨T, 0, none⟩) (some ⟨V, 0, none⟩) 4 3 3 ∧ Below w.heap.size w w' := by
  have hA : HasArcs w (.slice (some ⟨b, 0, none⟩) 3 3) xsB := by
    refine ⟨_, 3, rfl, fun j a hj => ⟨b, 0, rfl, lt_of_get h, ?_⟩⟩
    rcases j with _ | _ | _ | j <;> simp [xsB] at hj <;> subst hj <;> simp [World.cell?, h]
  refine (back_good 3 (some ⟨b, 0, none⟩) 3 3 xsB w hA xsB_good).mono ?_
  rw [xsB_norm]
  rintro e w' ⟨F, T, V, rfl, _, hf, ht, hv, hb⟩
  exact ⟨F, T, V, rfl, rows_in hf ht hv, hb⟩
theorem build_none (w : World) : Calls Tryd.prog 9 #[.agg #[.int .i64 0, .slice none 0 0]] w fun e w' => ∃ F T V, e = .returned (.tuple #[.agg #[.slice (some ⟨F, 0, none⟩) 1 1, .slice (some ⟨T, 0, none⟩) 0 0, .slice (some ⟨V, 0, none⟩) 0 0], .nilIface]) ∧ CsrIn w' 0 [] (some ⟨F, 0, none⟩) (some ⟨T, 0, none⟩) (some ⟨V, 0, none⟩) 1 0 0 ∧ Below w.heap.size w w' := by
  refine (build_good 0 none 0 0 [] w (arcs_none w) none_good0).mono ?_
  rw [show normA [] = [] by kernel_rfl]
  rintro e w' ⟨F, T, V, rfl, _, hf, ht, hv, hb⟩
  exact ⟨F, T, V, rfl, rows_in hf ht hv, hb⟩

theorem chk_a (w : World) : Calls Tryd.prog 16 #[.agg #[.slice none 0 0, .slice none 0 0, .slice none 0 0]] w fun e w' => e = .returned (.iface 65 (.int .i64 14)) ∧ Below w.heap.size w w' :=
  check_len none none none 0 0 0 0 0 0 w 14 fun wx _ => len_a none none none 0 0 0 0 0 wx
section
variable {w : World} {b1 b2 b3 : Nat}
theorem chk_f (h1 : w.heap[b1]? = some (.cells #[.int .i64 0, .int .i64 2, .int .i64 1, .int .i64 1] 3)) :
    Calls Tryd.prog 16 #[.agg #[.slice (some ⟨b1, 0, none⟩) 4 4, .slice (some ⟨b2, 0, none⟩) 1 1, .slice (some ⟨b3, 0, none⟩) 1 1]] w fun e w' => ∃ v, e = .returned v ∧ IsTold w' (14, [(3, 1)]) v ∧ Below w.heap.size w w' :=
  check_falls 3 1 [0, 2, 1, 1] b1 0 (some ⟨b2, 0, none⟩) (some ⟨b3, 0, none⟩) 4 1 1 w (ints_of_block (l := [0, 2, 1, 1]) h1 4) rfl rfl (by omega) (by omega) 1 (by omega) 2 1 rfl rfl (by omega) (fun u a b hu ha hb => by
    obtain rfl : u = 0 := by omega
    simp at ha hb
    omega)
theorem chk_s (h1 : w.heap[b1]? = some (.cells #[.int .i64 0, .int .i64 2, .int .i64 2] 3)) (h2 : w.heap[b2]? = some (.cells #[.int .i64 1, .int .i64 1] 3)) (h3 : w.heap[b3]? = some (.cells #[.int .i64 3, .int .i64 4] 3)) :
    Calls Tryd.prog 16 #[.agg #[.slice (some ⟨b1, 0, none⟩) 3 3, .slice (some ⟨b2, 0, none⟩) 2 2, .slice (some ⟨b3, 0, none⟩) 2 2]] w fun e w' => ∃ v, e = .returned v ∧ IsTold w' (14, [(4, 1)]) v ∧ Below w.heap.size w w' := by
  refine check_arcbad 2 2 [0, 2, 2] [1, 1] [3, 4] (fun v => if v = 0 then 0 else 2) b1 0 (some ⟨b2, 0, none⟩) (some ⟨b3, 0, none⟩) 3 2 2 w (ints_of_block (l := [0, 2, 2]) h1 3) (ints_of_block (l := [1, 1]) h2 2) (ints_of_block (l := [3, 4]) h3 2) ⟨fun v hv => ?_, fun v hv => ?_, rfl, rfl⟩ (by omega) (by omega) 0 1 (by omega) (by decide) (by decide) (fun v i hv h1 h2 hi => ?_) (by decide)
  · rcases (show v = 0 ∨ v = 1 ∨ v = 2 by omega) with rfl | rfl | rfl <;> rfl
  · rcases (show v = 0 ∨ v = 1 by omega) with rfl | rfl <;> decide
  · obtain rfl : i = 0 := by omega
    rcases (show v = 0 ∨ v = 1 by omega) with rfl | rfl
    · decide
    · simp at h1
theorem chk_l (h1 : w.heap[b1]? = some (.cells #[.int .i64 0, .int .i64 1] 3)) (h2 : w.heap[b2]? = some (.cells #[.int .i64 0] 3)) (h3 : w.heap[b3]? = some (.cells #[.int .i64 1] 3)) :
    Calls Tryd.prog 16 #[.agg #[.slice (some ⟨b1, 0, none⟩) 2 2, .slice (some ⟨b2, 0, none⟩) 1 1, .slice (some ⟨b3, 0, none⟩) 1 1]] w fun e w' => ∃ v, e = .returned v ∧ IsTold w' (14, [(4, 0)]) v ∧ Below w.heap.size w w' := by
  refine check_arcbad 1 1 [0, 1] [0] [1] (fun v => if v = 0 then 0 else 1) b1 0 (some ⟨b2, 0, none⟩) (some ⟨b3, 0, none⟩) 2 1 1 w (ints_of_block (l := [0, 1]) h1 2) (ints_of_block (l := [0]) h2 1) (ints_of_block (l := [1]) h3 1) ⟨fun v hv => ?_, fun v hv => ?_, rfl, rfl⟩ (by omega) (by omega) 0 0 (by omega) (by decide) (by decide) (fun v i hv h1 h2 hi => by omega) (by decide)
  · rcases (show v = 0 ∨ v = 1 by omega) with rfl | rfl <;> rfl
  · obtain rfl : v = 0 := by omega
    decide
theorem chk_n (h1 : w.heap[b1]? = some (.cells #[.int .i64 0, .int .i64 1, .int .i64 1] 3)) (h2 : w.heap[b2]? = some (.cells #[.int .i64 2] 3)) (h3 : w.heap[b3]? = some (.cells #[.int .i64 1] 3)) :
    Calls Tryd.prog 16 #[.agg #[.slice (some ⟨b1, 0, none⟩) 3 3, .slice (some ⟨b2, 0, none⟩) 1 1, .slice (some ⟨b3, 0, none⟩) 1 1]] w fun e w' => ∃ v, e = .returned v ∧ IsTold w' (7, [(4, 0)]) v ∧ Below w.heap.size w w' := by
  refine check_arcbad 2 1 [0, 1, 1] [2] [1] (fun v => if v = 0 then 0 else 1) b1 0 (some ⟨b2, 0, none⟩) (some ⟨b3, 0, none⟩) 3 1 1 w (ints_of_block (l := [0, 1, 1]) h1 3) (ints_of_block (l := [2]) h2 1) (ints_of_block (l := [1]) h3 1) ⟨fun v hv => ?_, fun v hv => ?_, rfl, rfl⟩ (by omega) (by omega) 0 0 (by omega) (by decide) (by decide) (fun v i hv h1 h2 hi => by omega) (by decide)
  · rcases (show v = 0 ∨ v = 1 ∨ v = 2 by omega) with rfl | rfl | rfl <;> rfl
  · rcases (show v = 0 ∨ v = 1 by omega) with rfl | rfl <;> decide
theorem chk_b (h1 : w.heap[b1]? = some (.cells #[.int .i64 1, .int .i64 1] 3)) :
    Calls Tryd.prog 16 #[.agg #[.slice (some ⟨b1, 0, none⟩) 2 2, .slice (some ⟨b2, 0, none⟩) 1 1, .slice (some ⟨b3, 0, none⟩) 1 1]] w fun e w' => e = .returned (.iface 65 (.int .i64 14)) ∧ Below w.heap.size w w' :=
  check_len _ _ _ 2 2 1 1 1 1 w 14 fun wx hx => by
    have h := (hx.block _ (lt_of_get h1)).trans h1
    exact len_b b1 0 _ _ 1 2 1 1 1 1 1 1 wx (by simp [World.cell?, h]) (by simp [World.cell?, h]) (lt_of_get h) (by unfold maxLen; omega) (by omega)
theorem row_b (h1 : w.heap[b1]? = some (.cells #[.int .i64 1] 3)) :
    Calls Tryd.prog 22 #[.agg #[.slice (some ⟨b1, 0, none⟩) 1 1, .slice none 0 0, .slice none 0 0], .int .i64 0] w fun e w' => ∃ T x, e = .returned (.tuple #[.slice none 0 0, .iface T x]) ∧ IsTold w' (14, []) (.iface T x) ∧ Below w.heap.size w w' :=
  row_bad _ none none 1 1 0 0 0 0 w 0 (14, []) fun wx hx => by
    have h := (hx.block _ (lt_of_get h1)).trans h1
    refine (check_len _ none none 1 1 0 0 0 0 wx 14 fun wy hy => ?_).mono fun e w' ⟨he, hb⟩ => ⟨_, _, he, told_num w' (by omega), hb⟩
    have h' := (hy.block _ (lt_of_get h)).trans h
    exact len_b b1 0 none none 0 1 0 0 0 0 1 1 wy (by simp [World.cell?, h']) (by simp [World.cell?, h']) (lt_of_get h') (by unfold maxLen; omega) (by omega)
theorem chk_big (h : IntRow w b1 65538 (fun _ => 0)) :
    Calls Tryd.prog 16 #[.agg #[.slice (some ⟨b1, 0, none⟩) 65538 65538, .slice none 0 0, .slice none 0 0]] w fun e w' => e = .returned (.iface 65 (.int .i64 9)) ∧ Below w.heap.size w w' :=
  check_len _ none none 65538 65538 0 0 0 0 w 9 fun wx hx => by
    have h' : IntRow wx b1 65538 (fun _ => 0) := h.keep (hx.block _ h.lt)
    exact len_e b1 0 none none 65537 65538 0 0 0 wx (h'.cell (u := 0) (by omega)) (by rw [Nat.zero_add]; exact h'.cell (u := 65537) (by omega)) h'.lt (by unfold maxLen; omega) (by omega)
theorem firsts_none (n : Nat) : firsts n [] = List.replicate (n + 1) 0 := by
  apply List.ext_getElem?
  intro i
  by_cases h : i ≤ n
  · rw [firsts_at [] h, List.getElem?_replicate, if_pos (by omega)]
    rfl
  · rw [List.getElem?_eq_none (by rw [firsts_len]; omega), List.getElem?_replicate, if_neg (by omega)]
theorem fine_none (n : Nat) (h : n ≤ 65536) : Fine n [] := ⟨List.Pairwise.nil, (fun a ha => by cases ha), h, by simp⟩
theorem chk_full (h : IntRow w b1 65538 (fun _ => 0)) :
    Calls Tryd.prog 16 #[.agg #[.slice (some ⟨b1, 1, none⟩) 65537 65537, .slice none 0 0, .slice none 0 0]] w fun e w' => e = .returned .nilIface ∧ Below w.heap.size w w' := by
  refine check_good 65536 [] (some ⟨b1, 1, none⟩) none none 65537 0 0 w (fine_none _ (Nat.le_refl _)) ⟨?_, ints_none w, ints_none w⟩
  rw [firsts_none]
  refine ⟨_, 65537, by rw [List.length_replicate], fun j a hj => ⟨b1, 1, rfl, h.lt, ?_⟩⟩
  rw [List.getElem?_replicate] at hj
  split at hj
  · cases hj
    exact h.cell (u := 1 + j) (by omega)
  · cases hj
theorem seen_one {c k a : Int} {v : Value} (hT : IsTold w (c, [(k, a)]) v) (hg : HasType w) {g : Nat} (hb : w.heap[g]? = some (.cells #[.int .i64 k, .int .i64 a] 73)) : Calls Tryd.prog 13 #[v, .agg #[.int .i64 c, .slice (some ⟨g, 0, none⟩) 1 1]] w fun r w' => r = .returned (.bool true) ∧ Below w.heap.size w w' := by
  refine seen_told (c, [(k, a)]) v (some ⟨g, 0, none⟩) 1 w hT ⟨some ⟨g, 0, none⟩, 1, rfl, fun j p hj => ?_⟩ (by unfold maxLen; simp) hg
  rcases j with _ | j
  · simp at hj
    subst hj
    exact ⟨g, 0, rfl, lt_of_get hb, by simp [World.cell?, hb], by simp [World.cell?, hb]⟩
  · simp at hj
theorem seen_num {c : Int} {v : Value} (hT : IsTold w (c, []) v) (hg : HasType w) : Calls Tryd.prog 13 #[v, .agg #[.int .i64 c, .slice none 0 0]] w fun r w' => r = .returned (.bool true) ∧ Below w.heap.size w w' :=
  seen_told (c, []) v none 0 w hT ⟨none, 0, rfl, fun j p hj => by simp at hj⟩ (Nat.zero_le _) hg
end
theorem make_big (w : World) : (Instr.makeSlice 27 (.int .i64 65538) (.int .i64 65538)).run Tryd.prog w = .ok (.slice (some ⟨w.heap.size, 0, none⟩) 65538 65538) (w.alloc (.cells (madeCells #[.int .i64 0] 65538) 3)) :=
  run_make_row' (P := Tryd.prog) 27 3 (.int .i64 0) 8 Tryd.underlying27 infoI rfl .i64 .i64 65538 (by omega) (by omega) w
end Go.Proofs.YtgfmalimnbgdeaaDoor
