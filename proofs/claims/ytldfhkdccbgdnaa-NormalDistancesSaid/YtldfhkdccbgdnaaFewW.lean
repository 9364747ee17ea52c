/- viaductref04's Few, SameRow and SameMatrix; the law's great: what they answer. -/
import Derived.Test.YtldfhkdccbgdnaaDistP
import Derived.Test.YtldfhkdccbgdnaaDocCheck
import Derived.Deep.DeepCutAuto
namespace Go.Proofs.Ytldfhkdccbgdnaa
open Go.RowKit Go.Extern

attribute [local go_sem] Oper.semAt_some

/-- is a graph right, and has it few nodes? -/
def isFew (N : Int) (xs : List (Int × Int × Int)) : Bool := decide (graphErr N xs = (0, []) ∧ N ≤ 12 ∧ xs.length ≤ 2000)
theorem graphErr_one (N : Int) (xs : List (Int × Int × Int)) : ((graphErr N xs).1 != 0 || decide (0 < (graphErr N xs).2.length)) = !decide (graphErr N xs = (0, [])) := by
  by_cases h : graphErr N xs = (0, [])
  · rw [h]; rfl
  · rw [decide_eq_false h]
    cases hE : graphErr N xs with
    | mk c ps =>
      rw [hE] at h
      cases ps with
      | nil =>
        have : c ≠ 0 := fun e => h (by rw [e])
        simp [this]
      | cons p r => simp

set_option maxRecDepth 100000 in
set_option maxHeartbeats 2000000 in
theorem few_calls (N : Int) (ao : Option Addr) (q cap : Nat) (xs : List (Int × Int × Int)) (w : World) (hl : HasArcs w (.slice ao q cap) xs) (hm : xs.length ≤ maxLen) : Calls Try.prog 6 #[.agg #[.int .i64 N, .slice ao q cap], .int .i64 12] w fun e w' => e = .returned (.bool (isFew N xs)) ∧ Below w.heap.size w w' := by
  have hq := arcs_len hl
  subst hq
  have HG0 : Hid (type_of% (Gr.new N hl)) := Gr.new N hl
  have HM : Hid (xs.length ≤ maxLen) := hm
  have hml : xs.length ≤ 9223372036854775807 := by unfold maxLen at hm; omega
  clear hl hm
  go_enter Try.func6, Try.ntmps6
  go_upto_region 1 with fail
  generalize hW0 : w.alloc (.cells #[.int .i64 N, .slice ao xs.length cap] 24) = W0
  have I0 : Hid (Gr W0 w.heap.size N ao xs.length cap xs ∧ Below w.heap.size w W0) := by rw [← hW0]; exact ⟨HG0.out.1, HG0.out.2⟩
  clear hW0 HG0
  obtain ⟨c0, c1, cs⟩ := I0.out.1.cells
  go_wp2_with fail
  refine (docCheck_calls N ao cap xs W0 I0.out.1.arcs HM.out).mono ?_
  rintro e w1 ⟨lo, lc, rfl, _, h⟩
  have I1 : Hid (Gr w1 w.heap.size N ao xs.length cap xs ∧ Below w.heap.size w w1) := ⟨I0.out.1.keep h, I0.out.2.trans (h.mono I0.out.2.size)⟩
  clear h c0 c1 cs
  obtain ⟨c0, c1, cs⟩ := I1.out.1.cells
  have HBD : Hid (∀ wx, Calls Try.prog 18 #[.agg #[.int .i64 (graphErr N xs).1, .slice lo (graphErr N xs).2.length lc]] wx fun e w' => e = .returned (.bool (!decide (graphErr N xs = (0, [])))) ∧ Below wx.heap.size wx w') := fun wx => by
    have h := bad_calls (graphErr N xs).1 lo (graphErr N xs).2.length lc wx
    rw [graphErr_one] at h
    exact h
  have HF : Hid (isFew N xs = (decide (graphErr N xs = (0, [])) && (decide (N ≤ 12) && decide (xs.length ≤ 2000)))) := by
    show _ = _
    unfold isFew
    by_cases h1 : graphErr N xs = (0, []) <;> by_cases h2 : N ≤ 12 <;> by_cases h3 : xs.length ≤ 2000 <;> simp [h1, h2, h3]
  generalize (graphErr N xs).1 = C at *
  generalize (graphErr N xs).2.length = L at *
  obtain ⟨F, hFF⟩ : ∃ F, isFew N xs = F := ⟨_, rfl⟩
  have HFF : Hid (isFew N xs = F) := hFF
  rw [hFF] at HF
  clear hFF
  generalize decide (graphErr N xs = (0, [])) = G at *
  go_wp2_with fail
  generalize hW1 : w1.alloc (.cells #[.int .i64 C, .slice lo L lc] 47) = W1
  have I2 : Hid (Gr W1 w.heap.size N ao xs.length cap xs ∧ Below w.heap.size w W1) := by
    have hb : Below w1.heap.size w1 W1 := by rw [← hW1]; exact (Below.refl _ w1).alloc (Nat.le_refl _) _
    exact ⟨I1.out.1.keep hb, I1.out.2.trans (hb.mono I1.out.2.size)⟩
  clear hW1 c0 c1 cs
  refine (HBD.out _).mono ?_
  rintro e w2 ⟨rfl, h⟩
  have I3 : Hid (Gr w2 w.heap.size N ao xs.length cap xs ∧ Below w.heap.size w w2) := ⟨I2.out.1.keep h, I2.out.2.trans (h.mono I2.out.2.size)⟩
  clear h
  obtain ⟨c0, c1, cs⟩ := I3.out.1.cells
  cases G with
  | false =>
    have HF2 : Hid (F = false) := by show _ = _; rw [HF.out]; rfl
    go_wp2
    go_ret
    exact ⟨by rw [HFF.out, HF2.out]; rfl, I3.out.2⟩
  | true =>
    by_cases h2 : N ≤ 12
    · by_cases h3 : (xs.length : Int) ≤ 2000
      · have HF2 : Hid (F = true) := by show _ = _; rw [HF.out, decide_eq_true h2, decide_eq_true (by omega)]; rfl
        go_wp2
        go_ret
        exact ⟨by rw [HFF.out, HF2.out]; rfl, I3.out.2⟩
      · have HF2 : Hid (F = false) := by show _ = _; rw [HF.out, decide_eq_true h2, decide_eq_false (by omega)]; rfl
        have d3 : decide ((xs.length : Int) ≤ 2000) = false := decide_eq_false h3
        go_wp2
        go_ret
        exact ⟨by rw [HFF.out, HF2.out]; rfl, I3.out.2⟩
    · have HF2 : Hid (F = false) := by show _ = _; rw [HF.out, decide_eq_false h2]; rfl
      have d2 : decide (N ≤ 12) = false := decide_eq_false h2
      go_wp2
      go_ret
      exact ⟨by rw [HFF.out, HF2.out]; rfl, I3.out.2⟩

set_option maxRecDepth 100000 in
theorem great_no (N : Int) (ao : Option Addr) (n cap : Nat) (h1 : n ≤ 2000) (w : World) : Calls Try.prog 7 #[.agg #[.int .i64 N, .slice ao n cap]] w fun e w' => e = .returned (.bool false) ∧ Below w.heap.size w w' := by
  have HB : Hid (∀ u, Below w.heap.size w (w.alloc u)) := fun u => (Below.refl _ w).alloc (Nat.le_refl _) _
  have h2 : ¬ (3000 : Int) < n := by omega
  go_enter Try.func7, Try.ntmps7
  go_wp2
  go_ret
  exact ⟨rfl, HB.out _⟩

set_option maxRecDepth 100000 in
set_option maxHeartbeats 2000000 in
/-- two rows that are one. -/
theorem sameRow_yes (n ra rb : Nat) (s : Nat → Int) (w : World) (hn : n ≤ 12) (ha : w.heap[ra]? = some (.cells (rowV n fun j => .int .u64 (s j)).toArray 35)) (hb : w.heap[rb]? = some (.cells (rowV n fun j => .int .u64 (s j)).toArray 35)) : Calls Try.prog 28 #[.slice (some ⟨ra, 0, none⟩) n n, .slice (some ⟨rb, 0, none⟩) n n] w fun e w' => e = .returned (.bool true) ∧ Below w.heap.size w w' := by
  have HA : Hid (∀ j, j < n → ∀ wx, Below w.heap.size w wx → wx.cell? ⟨ra, j, none⟩ = some (.int .u64 (s j)) ∧ wx.cell? ⟨rb, j, none⟩ = some (.int .u64 (s j))) := fun j hj wx h => by
    have h1 := (h.block _ (lt_of_get ha)).trans ha
    have h2 := (h.block _ (lt_of_get hb)).trans hb
    exact ⟨(row_cell h1 j).1.trans (by rw [List.getElem?_toArray, rowV_get n _ hj]), (row_cell h2 j).1.trans (by rw [List.getElem?_toArray, rowV_get n _ hj])⟩
  clear ha hb
  go_enter Try.func28, Try.ntmps28
  go_wp2_with fail
  go_loopw [13] (fun iv wr => ∃ k : Nat, k ≤ n ∧ iv = .int .i64 k ∧ Below w.heap.size w wr) (fun iv _ => n - (intOf iv).toNat)
  case atStart => exact ⟨0, Nat.zero_le _, rfl, Below.refl _ _⟩
  case round =>
    obtain ⟨k, hk, rfl, hbw⟩ := hrel
    have HBW : Hid (Below w.heap.size w wr) := hbw
    by_cases hlt : k < n
    · obtain ⟨a0, b0⟩ := HA.out k hlt wr hbw
      have d0 : (0 : Int) ≤ (k : Int) := by omega
      have d1 : (k : Int) < (n : Int) := by omega
      clear hbw
      go_wp2
      go_quiet (fail)
      go_wp2
      go_roundw
      case rel => exact ⟨k + 1, by omega, by go_num, ⟨HBW.out.os, HBW.out.tape, HBW.out.output, HBW.out.size, HBW.out.block⟩⟩
      case measure => simp [intOf]; omega
    · clear hbw
      go_wp2
      go_ret
      exact ⟨rfl, HBW.out⟩

set_option maxRecDepth 100000 in
set_option maxHeartbeats 2000000 in
/-- two matrices that are one. -/
theorem sameMatrix_yes {B B' : Nat} (n da db : Nat) (ra rb : Nat → Nat) (f : Mx) (w : World) (hn : n ≤ 12) (ha : MatP B w da n n ra f) (hb : MatP B' w db n n rb f) : Calls Try.prog 11 #[.slice (some ⟨da, 0, none⟩) n n, .slice (some ⟨db, 0, none⟩) n n] w fun e w' => e = .returned (.bool true) ∧ Below w.heap.size w w' := by
  have HA : Hid (∀ wx, Below w.heap.size w wx → MatP B wx da n n ra f ∧ MatP B' wx db n n rb f) := fun wx h => ⟨ha.keep h, hb.keep h⟩
  clear ha hb
  go_enter Try.func11, Try.ntmps11
  go_wp2_with fail
  go_loopw [13] (fun iv wr => ∃ k : Nat, k ≤ n ∧ iv = .int .i64 k ∧ Below w.heap.size w wr) (fun iv _ => n - (intOf iv).toNat)
  case atStart => exact ⟨0, Nat.zero_le _, rfl, Below.refl _ _⟩
  case round =>
    obtain ⟨k, hk, rfl, hbw⟩ := hrel
    have HBW : Hid (Below w.heap.size w wr) := hbw
    by_cases hlt : k < n
    · obtain ⟨hA, hB⟩ := HA.out wr hbw
      obtain ⟨a0, _, _⟩ := hA.at (i := k) hlt (Nat.le_refl _)
      obtain ⟨b0, _, _⟩ := hB.at (i := k) hlt (Nat.le_refl _)
      have d0 : (0 : Int) ≤ (k : Int) := by omega
      have d1 : (k : Int) < (n : Int) := by omega
      have HR : Hid (∀ wx, Below wr.heap.size wr wx → Calls Try.prog 28 #[.slice (some ⟨ra k, 0, none⟩) n n, .slice (some ⟨rb k, 0, none⟩) n n] wx fun e w' => e = .returned (.bool true) ∧ Below wx.heap.size wx w') := fun wx h => by
        have h1 := (hA.keep h).row k hlt
        have h2 := (hB.keep h).row k hlt
        exact sameRow_yes n (ra k) (rb k) (f k) wx hn h1 h2
      clear hbw hA hB
      obtain ⟨xa, hxa⟩ : ∃ xa, ra k = xa := ⟨_, rfl⟩
      obtain ⟨xb, hxb⟩ : ∃ xb, rb k = xb := ⟨_, rfl⟩
      rw [hxa] at a0
      rw [hxb] at b0
      rw [hxa, hxb] at HR
      have HXA : Hid (ra k = xa) := hxa
      have HXB : Hid (rb k = xb) := hxb
      clear hxa hxb
      go_wp2_with fail
      go_region_held3 (fun w' => w'.cell? ⟨da, k, none⟩ = some (.slice (some ⟨xa, 0, none⟩) n n) ∧ w'.cell? ⟨db, k, none⟩ = some (.slice (some ⟨xb, 0, none⟩) n n)) (go_keep) (first
        | (go_at_call 28; refine (HR.out _ (Below.refl _ _).drew).mono ?_; rintro e w2 ⟨rfl, h2⟩; have H2 : Hid (Below w.heap.size w w2) := HBW.out.trans (((Below.refl _ _).drew.trans h2).mono HBW.out.size); obtain ⟨u0, _, _⟩ := (HA.out w2 H2.out).1.at (i := k) hlt (Nat.le_refl _); obtain ⟨v0, _, _⟩ := (HA.out w2 H2.out).2.at (i := k) hlt (Nat.le_refl _); rw [HXA.out] at u0; rw [HXB.out] at v0; clear h2))
      go_wp2
      go_roundw
      case rel => exact ⟨k + 1, by omega, by go_num, H2.out⟩
      case measure => simp [intOf]; omega
    · clear hbw
      go_wp2
      go_ret
      exact ⟨rfl, HBW.out⟩
end Go.Proofs.Ytldfhkdccbgdnaa
