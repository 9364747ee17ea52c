/- gtext.Check and its checkArc: the error of a graph: its number and its place. -/
import Derived.Test.YtbkclhaonbjobaaGreatErrP
import Derived.Test.YtbkclhaonbjobaaGreatCmp
namespace Go.Proofs.YtbkclhaonbjobaaGreat
open Go.RowKit Go.Extern

attribute [local go_sem] Oper.semAt_some

/-- a slice whose arcs lie in memory. -/
def HasArcs (w : World) (lv : Value) (xs : List (Int × Int × Int)) : Prop :=
  ∃ ao cap, lv = .slice ao xs.length cap ∧ ∀ j a, xs[j]? = some a → ∃ b off, ao = some ⟨b, off, none⟩ ∧ b < w.heap.size ∧
    w.cell? ⟨b, off + j * 3, none⟩ = some (.int .i64 a.1) ∧ w.cell? ⟨b, off + j * 3 + 1, none⟩ = some (.int .i64 a.2.1) ∧ w.cell? ⟨b, off + j * 3 + 2, none⟩ = some (.int .i64 a.2.2)
theorem HasArcs.keep {w w' : World} {lv : Value} {xs : List (Int × Int × Int)} (h : HasArcs w lv xs) (hb : Below w.heap.size w w') : HasArcs w' lv xs := by
  obtain ⟨ao, cap, e, hc⟩ := h
  refine ⟨ao, cap, e, fun j a hj => ?_⟩
  obtain ⟨b, off, ea, hl, h0, h1, h2⟩ := hc j a hj
  exact ⟨b, off, ea, Nat.lt_of_lt_of_le hl hb.size, (hb.cell (p := ⟨b, _, none⟩) hl).trans h0, (hb.cell (p := ⟨b, _, none⟩) hl).trans h1, (hb.cell (p := ⟨b, _, none⟩) hl).trans h2⟩
theorem HasArcs.at {w : World} {ao : Option Addr} {n cap : Nat} {xs : List (Int × Int × Int)} (h : HasArcs w (.slice ao n cap) xs) {k : Nat} {a : Int × Int × Int} (hp : xs[k]? = some a) :
    ∃ b off, ao = some ⟨b, off, none⟩ ∧ b < w.heap.size ∧ w.cell? ⟨b, off + k * 3, none⟩ = some (.int .i64 a.1) ∧ w.cell? ⟨b, off + k * 3 + 1, none⟩ = some (.int .i64 a.2.1) ∧ w.cell? ⟨b, off + k * 3 + 2, none⟩ = some (.int .i64 a.2.2) := by
  obtain ⟨ao', cap', e, hc⟩ := h
  injection e with e1 e2 e3
  subst e1
  exact hc k a hp

/-- the number of an arc's error. -/
def arcBad (N : Int) (a : Int × Int × Int) : Int := if a.1 < 0 ∨ N ≤ a.1 ∨ a.2.1 < 0 ∨ N ≤ a.2.1 then 7 else if a.2.2 < 0 ∨ 2147483647 < a.2.2 then 8 else 0
/-- the value that a number is xs an error. -/
def numV (c : Int) : Value := if c = 0 then .nilIface else .iface 104 (.int .i64 c)

set_option maxHeartbeats 1000000 in
theorem checkArc_calls (N : Int) (a : Int × Int × Int) (w : World) :
    Calls Tryz.prog 59 #[arcV a, .int .i64 N] w fun e w' => e = .returned (numV (arcBad N a)) ∧ Laid w w' := by
  obtain ⟨a0, a1, a2⟩ := a
  unfold arcV
  simp only
  have hL : Laid w (w.alloc (.cells #[.int .i64 a0, .int .i64 a1, .int .i64 a2] 84)) := (Laid.refl w).alloc _
  have HL : Hid (Laid w (w.alloc (.cells #[.int .i64 a0, .int .i64 a1, .int .i64 a2] 84))) := hL
  clear hL
  have hcs : (a0 < 0 ∧ arcBad N (a0, a1, a2) = 7) ∨ (¬ a0 < 0 ∧ N ≤ a0 ∧ arcBad N (a0, a1, a2) = 7) ∨ (¬ a0 < 0 ∧ ¬ N ≤ a0 ∧ a1 < 0 ∧ arcBad N (a0, a1, a2) = 7) ∨ (¬ a0 < 0 ∧ ¬ N ≤ a0 ∧ ¬ a1 < 0 ∧ N ≤ a1 ∧ arcBad N (a0, a1, a2) = 7)
      ∨ (¬ a0 < 0 ∧ ¬ N ≤ a0 ∧ ¬ a1 < 0 ∧ ¬ N ≤ a1 ∧ a2 < 0 ∧ arcBad N (a0, a1, a2) = 8) ∨ (¬ a0 < 0 ∧ ¬ N ≤ a0 ∧ ¬ a1 < 0 ∧ ¬ N ≤ a1 ∧ ¬ a2 < 0 ∧ 2147483647 < a2 ∧ arcBad N (a0, a1, a2) = 8) ∨ (¬ a0 < 0 ∧ ¬ N ≤ a0 ∧ ¬ a1 < 0 ∧ ¬ N ≤ a1 ∧ ¬ a2 < 0 ∧ ¬ 2147483647 < a2 ∧ arcBad N (a0, a1, a2) = 0) := by
    unfold arcBad
    simp only
    by_cases h1 : a0 < 0 <;> by_cases h2 : N ≤ a0 <;> by_cases h3 : a1 < 0 <;> by_cases h4 : N ≤ a1 <;> by_cases h5 : a2 < 0 <;> by_cases h6 : 2147483647 < a2 <;> simp [h1, h2, h3, h4, h5, h6]
  rcases hcs with ⟨h1, e⟩ | ⟨h1, h2, e⟩ | ⟨h1, h2, h3, e⟩ | ⟨h1, h2, h3, h4, e⟩ | ⟨h1, h2, h3, h4, h5, e⟩ | ⟨h1, h2, h3, h4, h5, h6, e⟩ | ⟨h1, h2, h3, h4, h5, h6, e⟩
  all_goals
    rw [e]
    unfold numV
    clear e
    go_enter Tryz.func59, Tryz.ntmps59
    go_wp2
    go_ret
    exact ⟨rfl, HL.out⟩

theorem isErr_new {wm : World} {tv : Value} {p : Int × Int} {ps : List (Int × Int)} {u : Value} (h : IsErr wm tv ps u) :
    IsErr (wm.alloc (.cells #[.int .i64 p.1, .int .i64 p.2, u] 143)) tv (p :: ps) (.iface 141 (.pointer (some ⟨wm.heap.size, 0, none⟩))) :=
  ⟨_, _, rfl, heap_new _ _, h.keep (Below.keeps ((Below.refl _ _).alloc (Nat.le_refl _) _))⟩

/-- the first arc that has an error, from place i on. -/
def firstBad (N : Int) : List (Int × Int × Int) → Nat → Option (Nat × Int)
  | [], _ => none
  | a :: r, i => if arcBad N a = 0 then firstBad N r (i + 1) else some (i, arcBad N a)
theorem firstBad_skip (N : Int) : ∀ (k : Nat) (xs : List (Int × Int × Int)) (i : Nat), k ≤ xs.length → (∀ j a, j < k → xs[j]? = some a → arcBad N a = 0) → firstBad N xs i = firstBad N (xs.drop k) (i + k)
  | 0, xs, i, _, _ => by simp
  | k + 1, [], i, h, _ => by simp at h
  | k + 1, a :: r, i, h, hk => by
    have h0 := hk 0 a (by omega) rfl
    rw [firstBad, if_pos h0, firstBad_skip N k r (i + 1) (by simpa using h) (fun j b hj hb => hk (j + 1) b (by omega) (by simpa using hb)), List.drop_succ_cons]
    congr 1
    omega
/-- the error of a graph: its number and its places. -/
def graphErr (N : Int) (xs : List (Int × Int × Int)) : Int × List (Int × Int) :=
  if N < 0 ∨ 65536 < N ∨ 262144 < xs.length then (9, []) else match firstBad N xs 0 with
    | none => (0, [])
    | some (i, c) => (c, [(4, (i : Int))])
/-- an error as it is told: nothing, or a chain. -/
def IsTold (w : World) (e : Int × List (Int × Int)) (v : Value) : Prop := (e = (0, []) ∧ v = .nilIface) ∨ (e.1 ≠ 0 ∧ IsErr w (.iface 104 (.int .i64 e.1)) e.2 v)
theorem IsTold.keep {w w' : World} {e : Int × List (Int × Int)} {v : Value} (h : IsTold w e v) (hk : Keeps w w') : IsTold w' e v := by
  rcases h with h | ⟨h1, h2⟩
  · exact Or.inl h
  · exact Or.inr ⟨h1, h2.keep hk⟩
theorem arcBad_or (N : Int) (a : Int × Int × Int) : arcBad N a = 0 ∨ arcBad N a = 7 ∨ arcBad N a = 8 := by
  unfold arcBad
  split
  · exact Or.inr (Or.inl rfl)
  · split
    · exact Or.inr (Or.inr rfl)
    · exact Or.inl rfl

set_option maxRecDepth 100000 in
set_option maxHeartbeats 4000000 in
theorem check_calls (N : Int) (ao : Option Addr) (cap : Nat) (xs : List (Int × Int × Int)) (w : World) (hl : HasArcs w (.slice ao xs.length cap) xs) (hm : xs.length ≤ maxLen) :
    Calls Tryz.prog 42 #[.agg #[.int .i64 N, .slice ao xs.length cap]] w fun e w' => ∃ v, e = .returned v ∧ IsTold w' (graphErr N xs) v ∧ Below w.heap.size w w' := by
  unfold maxLen at hm
  have HL : Hid (HasArcs w (.slice ao xs.length cap) xs) := hl
  have HB0 : Hid (Below w.heap.size w (w.alloc (.cells #[.int .i64 N, .slice ao xs.length cap] 24))) := (Below.refl _ w).alloc (Nat.le_refl _) _
  have HN0 : Hid ((w.alloc (.cells #[.int .i64 N, .slice ao xs.length cap] 24)).heap[w.heap.size]? = some (.cells #[.int .i64 N, .slice ao xs.length cap] 24)) := heap_new _ _
  clear hl
  by_cases hlim : N < 0 ∨ 65536 < N ∨ 262144 < xs.length
  · have HE : Hid (graphErr N xs = (9, [])) := by show _ = _; rw [graphErr, if_pos hlim]
    rcases (show N < 0 ∨ (¬ N < 0 ∧ 65536 < N) ∨ (¬ N < 0 ∧ ¬ 65536 < N ∧ (262144 : Int) < xs.length) by omega) with h1 | ⟨h1, h2⟩ | ⟨h1, h2, h3⟩
    all_goals
      clear hlim
      go_enter Tryz.func42, Tryz.ntmps42
      go_wp2
      go_ret
      exact ⟨_, rfl, by rw [HE.out]; exact Or.inr ⟨by decide, rfl⟩, HB0.out⟩
  · have h1 : ¬ N < 0 := by omega
    have h2 : ¬ 65536 < N := by omega
    have h3 : ¬ (262144 : Int) < xs.length := by omega
    have HGE : Hid (graphErr N xs = match firstBad N xs 0 with | none => (0, []) | some (i, c) => (c, [(4, (i : Int))])) := by show _ = _; rw [graphErr, if_neg hlim]
    clear hlim
    go_enter Tryz.func42, Tryz.ntmps42
    go_wp2_with fail
    go_loopw [24] (fun iv wr => ∃ k : Nat, k ≤ xs.length ∧ iv = .int .i64 k ∧ (∀ j a, j < k → xs[j]? = some a → arcBad N a = 0) ∧ wr.heap[w.heap.size]? = some (.cells #[.int .i64 N, .slice ao xs.length cap] 24) ∧ Below w.heap.size w wr) (fun iv _ => xs.length - (intOf iv).toNat)
    case atStart => exact ⟨0, Nat.zero_le _, rfl, fun j a hj => by omega, HN0.out, HB0.out⟩
    case round =>
      obtain ⟨k, hk, rfl, hok, hbx, hbw⟩ := hrel
      have HOK : Hid (∀ j a, j < k → xs[j]? = some a → arcBad N a = 0) := hok
      have HBX : Hid (wr.heap[w.heap.size]? = some (.cells #[.int .i64 N, .slice ao xs.length cap] 24)) := hbx
      have HBW : Hid (Below w.heap.size w wr) := hbw
      clear hok hbx hbw
      by_cases hlt : k < xs.length
      · obtain ⟨a, ha⟩ : ∃ a, xs[k]? = some a := ⟨xs[k], List.getElem?_eq_getElem hlt⟩
        obtain ⟨b, off, hao, hbl, q0, q1, q2⟩ := HL.out.at ha
        subst hao
        have c0 := (HBW.out.cell (p := ⟨b, off + k * 3, none⟩) hbl).trans q0
        have c1 := (HBW.out.cell (p := ⟨b, off + k * 3 + 1, none⟩) hbl).trans q1
        have c2 := (HBW.out.cell (p := ⟨b, off + k * 3 + 2, none⟩) hbl).trans q2
        have HA : Hid (xs[k]? = some a) := ha
        have HCA : Hid (∀ wx, Calls Tryz.prog 59 #[arcV a, .int .i64 N] wx fun e w' => e = .returned (numV (arcBad N a)) ∧ Laid wx w') := fun wx => checkArc_calls N a wx
        have HOR : Hid (arcBad N a = 0 ∨ arcBad N a = 7 ∨ arcBad N a = 8) := arcBad_or N a
        have HCL : Hid (∀ wx, Laid (wr.alloc (.cells #[.int .i64 a.1, .int .i64 a.2.1, .int .i64 a.2.2] 84)) wx → wx.heap[w.heap.size]? = some (.cells #[.int .i64 N, .slice (some ⟨b, off, none⟩) xs.length cap] 24) ∧ Below w.heap.size w wx) := fun wx h => by
          have hs := HBW.out.size
          have hlt0 := lt_of_get HBX.out
          have hB : Below w.heap.size w wx := (HBW.out.alloc hs _).trans (h.below.mono (by simp; omega))
          refine ⟨?_, hB⟩
          rw [h.block (by simp; omega), Below.heap_alloc _ _ _ hlt0]
          exact HBX.out
        obtain ⟨d0, d1, _, _⟩ : wr.cell? ⟨w.heap.size, 0, none⟩ = some (.int .i64 N) ∧ wr.cell? ⟨w.heap.size, 1, none⟩ = some (.slice (some ⟨b, off, none⟩) xs.length cap) ∧ True ∧ True := by
          simp [World.cell?, HBX.out]
        have hlt0 : w.heap.size < wr.heap.size := lt_of_get HBX.out
        clear q0 q1 q2 ha
        unfold arcV at HCA
        go_wp2_with fail
        refine (HCA.out _).mono ?_
        rintro e w2 ⟨rfl, hL2⟩
        have H2 : Hid (w2.heap[w.heap.size]? = some (.cells #[.int .i64 N, .slice (some ⟨b, off, none⟩) xs.length cap] 24) ∧ Below w.heap.size w w2) := HCL.out w2 hL2
        clear hL2
        rcases HOR.out with h | h | h
        · rw [h]
          rw [show numV 0 = .nilIface from rfl]
          have HK : Hid (∀ j a, j < k + 1 → xs[j]? = some a → arcBad N a = 0) := fun j a' hj ha' => by
            rcases Nat.lt_or_ge j k with h' | h'
            · exact HOK.out j a' h' ha'
            · obtain rfl : j = k := by omega
              obtain rfl : a = a' := Option.some.inj (HA.out.symm.trans ha')
              exact h
          clear h
          go_wp2
          go_roundw
          case rel => exact ⟨k + 1, by omega, by go_num, HK.out, H2.out.1, H2.out.2⟩
          case measure => simp [intOf]; omega
        all_goals
          have HG : Hid (graphErr N xs = (arcBad N a, [(4, (k : Int))])) := by
            show _ = _
            have hd : xs.drop k = a :: xs.drop (k + 1) := by
              obtain ⟨hl, he⟩ := List.getElem?_eq_some_iff.1 HA.out
              rw [List.drop_eq_getElem_cons hl, he]
            rw [HGE.out, firstBad_skip N k xs 0 hk HOK.out, hd, firstBad, if_neg (by rw [h]; decide), Nat.zero_add]
          rw [h] at HG ⊢
          clear h
          first
            | rw [show numV 7 = .iface 104 (.int .i64 7) from rfl]
            | rw [show numV 8 = .iface 104 (.int .i64 8) from rfl]
          go_wp2_with (go_at_call 60; refine (at_some _ _ _ _ _).mono ?_; rintro e w3 ⟨rfl, hw3⟩)
          go_ret
          subst hw3
          refine ⟨_, rfl, ?_, H2.out.2.alloc H2.out.2.size _⟩
          rw [HG.out]
          refine Or.inr ⟨by simp, ?_⟩
          first
            | exact isErr_new (p := (4, (k : Int))) (show IsErr w2 (.iface 104 (.int .i64 7)) [] (.iface 104 (.int .i64 7)) from rfl)
            | exact isErr_new (p := (4, (k : Int))) (show IsErr w2 (.iface 104 (.int .i64 8)) [] (.iface 104 (.int .i64 8)) from rfl)
      · obtain rfl : k = xs.length := by omega
        have HG : Hid (graphErr N xs = (0, [])) := by
          show _ = _
          rw [HGE.out, firstBad_skip N xs.length xs 0 (Nat.le_refl _) HOK.out, List.drop_length]
          rfl
        go_wp2
        go_ret
        exact ⟨_, rfl, by rw [HG.out]; exact Or.inl ⟨rfl, rfl⟩, HBW.out⟩
end Go.Proofs.YtbkclhaonbjobaaGreat
