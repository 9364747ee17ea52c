/- The law FaultFirsts, walked: whatever of four errors are there, and however many are handed on, it answers true. -/
import Derived.Test.YtkmbffdjgpjojaaDoorAwake
import Derived.Test.YtkmbffdjgpjojaaDoorFirst
namespace Go.Proofs.YtkmbffdjgpjojaaDoor
open Go.RowKit Go.Extern

def cv (b : Bool) (j : Int) : Value := if b then .iface 24 (.int .i64 j) else .nilIface
/-- the array of errors behind k rounds. -/
def blk (b0 b1 b2 b3 : Bool) (k : Nat) : Array Value := #[if 0 < k then cv b0 1 else .nilIface, if 1 < k then cv b1 2 else .nilIface, if 2 < k then cv b2 3 else .nilIface, if 3 < k then cv b3 4 else .nilIface]
def bAt (b0 b1 b2 b3 : Bool) : Nat → Bool
  | 0 => b0
  | 1 => b1
  | 2 => b2
  | _ => b3
/-- the variable first behind k rounds. -/
def fs (b0 b1 b2 b3 : Bool) (c : Int) : Nat → Int
  | 0 => 0
  | k + 1 => if fs b0 b1 b2 b3 c k = 0 ∧ bAt b0 b1 b2 b3 k = true ∧ (k : Int) < c then (k : Int) + 1 else fs b0 b1 b2 b3 c k
theorem fs_bd (b0 b1 b2 b3 : Bool) (c : Int) : ∀ k, 0 ≤ fs b0 b1 b2 b3 c k ∧ fs b0 b1 b2 b3 c k ≤ k
  | 0 => by simp [fs]
  | k + 1 => by
    have := fs_bd b0 b1 b2 b3 c k
    simp only [fs]
    split <;> omega
theorem blk_false (b0 b1 b2 b3 : Bool) (k : Nat) (hk : k < 4) (h : bAt b0 b1 b2 b3 k = false) : blk b0 b1 b2 b3 (k + 1) = blk b0 b1 b2 b3 k := by
  rcases (show k = 0 ∨ k = 1 ∨ k = 2 ∨ k = 3 by omega) with rfl | rfl | rfl | rfl <;> simp_all [blk, bAt, cv]
theorem blk_true (b0 b1 b2 b3 : Bool) (k : Nat) (hk : k < 4) (h : bAt b0 b1 b2 b3 k = true) : blk b0 b1 b2 b3 (k + 1) = (blk b0 b1 b2 b3 k).setIfInBounds k (.iface 24 (.int .i64 (k + 1))) := by
  rcases (show k = 0 ∨ k = 1 ∨ k = 2 ∨ k = 3 by omega) with rfl | rfl | rfl | rfl <;> simp_all [blk, bAt, cv]

theorem first_new (l : List Value) (n cap : Nat) (w : World) (T : TypeId) (hn : l.length = n) (hn' : n ≤ 1000) (hvs : ∀ v ∈ l, v = .nilIface ∨ ∃ x, v = .iface 24 (.int .i64 x)) (r : Value) (hr : firstVal l = r) :
    Calls Tryd.prog 26 #[.slice (some ⟨w.heap.size, 0, none⟩) n cap] (w.alloc (.cells l.toArray T)) fun e w' => e = .returned r ∧ Below w.heap.size w w' := by
  subst hn
  subst hr
  refine (first_calls w.heap.size cap l _ hn' hvs (fun j v h => ?_)).mono ?_
  · simp only [World.cell?, heap_new]
    rw [← h]; simp
  · rintro e w' ⟨rfl, rfl⟩
    exact ⟨rfl, (Below.refl _ _).alloc (Nat.le_refl _) _⟩
theorem cv_or (b : Bool) (j : Int) : cv b j = .nilIface ∨ ∃ x, cv b j = .iface 24 (.int .i64 x) := by
  cases b
  · exact Or.inl rfl
  · exact Or.inr ⟨j, rfl⟩

/-- what holds at each round. -/
structure FiInv (b0 b1 b2 b3 : Bool) (w w1 wr : World) (k : Nat) : Prop where
  arr : wr.heap[w1.heap.size]? = some (.cells (blk b0 b1 b2 b3 k) 55)
  own : wr.heap[w.heap.size]? = some (.cells #[.bool b0, .bool b1, .bool b2, .bool b3] 54)
  below : Below w.heap.size w wr
theorem FiInv.bool {b0 b1 b2 b3 : Bool} {w w1 wr : World} {k : Nat} (h : FiInv b0 b1 b2 b3 w w1 wr k) (hk : k < 4) : wr.cell? ⟨w.heap.size, k, none⟩ = some (.bool (bAt b0 b1 b2 b3 k)) := by
  simp only [World.cell?, h.own]
  rcases (show k = 0 ∨ k = 1 ∨ k = 2 ∨ k = 3 by omega) with rfl | rfl | rfl | rfl <;> rfl
theorem FiInv.cell {b0 b1 b2 b3 : Bool} {w w1 wr : World} {k j : Nat} (h : FiInv b0 b1 b2 b3 w w1 wr k) : wr.cell? ⟨w1.heap.size, j, none⟩ = (blk b0 b1 b2 b3 k)[j]? ∧ wr.frozen? ⟨w1.heap.size, j, none⟩ = false := by
  simp [World.cell?, World.frozen?, h.arr]
theorem FiInv.set {b0 b1 b2 b3 : Bool} {w w1 wr : World} {k : Nat} (h : FiInv b0 b1 b2 b3 w w1 wr k) (hk : k < 4) (hs : w.heap.size < w1.heap.size) (hb : bAt b0 b1 b2 b3 k = true) :
    FiInv b0 b1 b2 b3 w w1 (wr.setCell ⟨w1.heap.size, k, none⟩ (.iface 24 (.int .i64 ((k : Int) + 1)))) (k + 1) := by
  refine ⟨?_, ?_, h.below.setCell (p := ⟨w1.heap.size, k, none⟩) (by show _ ≤ w1.heap.size; omega) _⟩
  · rw [blk_true _ _ _ _ k hk hb]
    simp [World.setCell, Array.getElem?_modify, h.arr]
  · rw [Below.heap_setCell _ _ _ _ (by show _ ≠ w1.heap.size; omega)]; exact h.own
theorem FiInv.skip {b0 b1 b2 b3 : Bool} {w w1 wr : World} {k : Nat} (h : FiInv b0 b1 b2 b3 w w1 wr k) (hk : k < 4) (hb : bAt b0 b1 b2 b3 k = false) : FiInv b0 b1 b2 b3 w w1 wr (k + 1) :=
  ⟨by rw [blk_false _ _ _ _ k hk hb]; exact h.arr, h.own, h.below⟩
theorem blk_some (b0 b1 b2 b3 : Bool) (k j : Nat) (hj : j < 4) : ∃ v, (blk b0 b1 b2 b3 k)[j]? = some v := ⟨_, Array.getElem?_eq_getElem (by simp [blk]; omega)⟩

set_option maxRecDepth 100000 in
set_option maxHeartbeats 2000000 in
theorem firsts_calls (b0 b1 b2 b3 : Bool) (c : Int) (h0 : -9223372036854775808 ≤ c) (h1 : c ≤ 9223372036854775807) (w : World) (hg : HasType w) (hpow : HasPow w) :
    Calls Tryd.prog 7 #[.agg #[.bool b0, .bool b1, .bool b2, .bool b3], .int .i64 c] w fun e w' => e = .returned (.bool true) ∧ Below w.heap.size w w' := by
  have hb0 : Below w.heap.size w (w.alloc (.cells #[.bool b0, .bool b1, .bool b2, .bool b3] 54)) := (Below.refl _ _).alloc (Nat.le_refl _) _
  have HN : Hid ((w.alloc (.cells #[.bool b0, .bool b1, .bool b2, .bool b3] 54)).heap[w.heap.size]? = some (.cells #[.bool b0, .bool b1, .bool b2, .bool b3] 54)) := heap_new _ _
  have HAW : Hid (Calls Tryd.prog 9 #[] (w.alloc (.cells #[.bool b0, .bool b1, .bool b2, .bool b3] 54)) fun e w' => e = .returned (.bool true) ∧ Below (w.alloc (.cells #[.bool b0, .bool b1, .bool b2, .bool b3] 54)).heap.size (w.alloc (.cells #[.bool b0, .bool b1, .bool b2, .bool b3] 54)) w') := awake_calls _ (hg.keep hb0 hg.pos) (hpow.keep hb0)
  have hg0 : 0 < w.heap.size := hg.pos
  clear hg hpow
  go_enter Tryd.func7, Tryd.ntmps7
  go_wp2_with fail
  refine HAW.out.mono ?_
  rintro e w1 ⟨rfl, hb1⟩
  have HN1 : Hid (w1.heap[w.heap.size]? = some (.cells #[.bool b0, .bool b1, .bool b2, .bool b3] 54)) := (hb1.block _ (by simp)).trans HN.out
  have HB1 : Hid (Below w.heap.size w w1) := hb0.trans (hb1.mono (by simp))
  have hs1 : w.heap.size < w1.heap.size := lt_of_get HN1.out
  clear hb0 hb1
  have HI : Hid (FiInv b0 b1 b2 b3 w w1 (w1.alloc (.cells #[.nilIface, .nilIface, .nilIface, .nilIface] 55)) 0) := ⟨heap_new _ _, by rw [Below.heap_alloc _ _ _ hs1]; exact HN1.out, HB1.out.alloc (by omega) _⟩
  go_wp2_with fail
  go_loopw [6, 11] (fun f idx wr => ∃ k : Nat, k ≤ 4 ∧ idx = .int .i64 k ∧ f = .int .i64 (fs b0 b1 b2 b3 c k) ∧ FiInv b0 b1 b2 b3 w w1 wr k) (fun _ idx _ => 4 - (intOf idx).toNat)
  case atStart => exact ⟨0, by omega, rfl, rfl, HI.out⟩
  case round =>
    obtain ⟨k, hk, rfl, rfl, hinv⟩ := hrel
    have HINV : Hid (FiInv b0 b1 b2 b3 w w1 wr k) := hinv
    clear hinv
    by_cases hlt : k < 4
    · have hcb := HINV.out.bool hlt
      cases hb : bAt b0 b1 b2 b3 k
      · rw [hb] at hcb
        have HB : Hid (bAt b0 b1 b2 b3 k = false) := hb
        clear hb
        go_wp2
        go_roundw
        case rel => exact ⟨k + 1, by omega, by go_num, by have h := HB.out; simp [fs, h], HINV.out.skip hlt HB.out⟩
        case measure => simp [intOf]; omega
      · rw [hb] at hcb
        have HB : Hid (bAt b0 b1 b2 b3 k = true) := hb
        clear hb
        obtain ⟨v0, hv0⟩ := blk_some b0 b1 b2 b3 k k hlt
        have hca := HINV.out.cell.1.trans hv0
        have hcf := (HINV.out.cell (j := k)).2
        have hfb := fs_bd b0 b1 b2 b3 c k
        clear hv0
        have HFS : Hid (fs b0 b1 b2 b3 c (k + 1) = if fs b0 b1 b2 b3 c k = 0 ∧ (k : Int) < c then (k : Int) + 1 else fs b0 b1 b2 b3 c k) := by
          show _ = _
          have h := HB.out
          simp [fs, h]
        generalize fs b0 b1 b2 b3 c k = F at *
        by_cases hF : F = 0
        · have hFb : (F == 0) = true := by simp [hF]
          by_cases hkc : (k : Int) < c
          · go_wp2
            go_roundw
            case rel => exact ⟨k + 1, by omega, by go_num, by rw [HFS.out, if_pos ⟨hF, hkc⟩]; try rfl, HINV.out.set hlt hs1 HB.out⟩
            case measure => simp [intOf]; omega
          · go_wp2
            go_roundw
            case rel => exact ⟨k + 1, by omega, by go_num, by rw [HFS.out, if_neg (fun h => hkc h.2)], HINV.out.set hlt hs1 HB.out⟩
            case measure => simp [intOf]; omega
        · have hFb : (F == 0) = false := by simp [hF]
          go_wp2
          go_roundw
          case rel => exact ⟨k + 1, by omega, by go_num, by rw [HFS.out, if_neg (fun h => hF h.1)], HINV.out.set hlt hs1 HB.out⟩
          case measure => simp [intOf]; omega
    · obtain rfl : k = 4 := by omega
      clear hlt hk
      have q := Tryd.eq2424
      have HBW : Hid (∀ wx, Below wr.heap.size wr wx → Below w.heap.size w wx) := fun wx h => HINV.out.below.trans (h.mono HINV.out.below.size)
      have hA0 := (HINV.out.cell (j := 0)).1
      have hA1 := (HINV.out.cell (j := 1)).1
      have hA2 := (HINV.out.cell (j := 2)).1
      have hA3 := (HINV.out.cell (j := 3)).1
      obtain ⟨F, hF⟩ : ∃ F, fs b0 b1 b2 b3 c 4 = F := ⟨_, rfl⟩
      rw [hF]
      clear HAW HN HN1 HI HB1
      by_cases c0 : c ≤ 0
      · have hF' : F = 0 := by rw [← hF]; simp [fs, bAt]; omega
        subst hF'
        clear hF hA0 hA1 hA2 hA3
        go_wp2_with (go_at_call 26; refine (first_none _).mono ?_; rintro e w' ⟨rfl, rfl⟩)
        go_ret
        exact ⟨rfl, HBW.out _ (Below.refl _ _)⟩
      by_cases c1 : c = 1
      · subst c1
        cases b0
        · have hF' : F = 0 := by rw [← hF]; simp [fs, bAt]
          subst hF'
          clear hF hA1 hA2 hA3
          simp [blk, cv] at hA0
          go_wp2_with (go_at_call 26; refine (first_new [.nilIface] 1 1 wr 27 rfl (by omega) (by simp) (.nilIface) rfl).mono ?_; rintro e w' ⟨rfl, hb⟩)
          go_ret
          exact ⟨rfl, HBW.out _ hb⟩
        · have hF' : F = 1 := by rw [← hF]; simp [fs, bAt]
          subst hF'
          clear hF hA1 hA2 hA3
          simp [blk, cv] at hA0
          go_wp2_with (go_at_call 26; refine (first_new [.iface 24 (.int .i64 1)] 1 1 wr 27 rfl (by omega) (by simp) (.iface 24 (.int .i64 1)) rfl).mono ?_; rintro e w' ⟨rfl, hb⟩)
          go_ret
          exact ⟨rfl, HBW.out _ hb⟩
      by_cases c2 : c = 2
      · subst c2
        cases b0
        · cases b1
          · have hF' : F = 0 := by rw [← hF]; simp [fs, bAt]
            subst hF'
            clear hF hA2 hA3
            simp [blk, cv] at hA0 hA1
            go_wp2_with (go_at_call 26; refine (first_new [.nilIface, .nilIface] 2 2 wr 27 rfl (by omega) (by simp) (.nilIface) rfl).mono ?_; rintro e w' ⟨rfl, hb⟩)
            go_ret
            exact ⟨rfl, HBW.out _ hb⟩
          · have hF' : F = 2 := by rw [← hF]; simp [fs, bAt]
            subst hF'
            clear hF hA2 hA3
            simp [blk, cv] at hA0 hA1
            go_wp2_with (go_at_call 26; refine (first_new [.nilIface, .iface 24 (.int .i64 2)] 2 2 wr 27 rfl (by omega) (by simp) (.iface 24 (.int .i64 2)) rfl).mono ?_; rintro e w' ⟨rfl, hb⟩)
            go_ret
            exact ⟨rfl, HBW.out _ hb⟩
        · cases b1
          · have hF' : F = 1 := by rw [← hF]; simp [fs, bAt]
            subst hF'
            clear hF hA2 hA3
            simp [blk, cv] at hA0 hA1
            go_wp2_with (go_at_call 26; refine (first_new [.iface 24 (.int .i64 1), .nilIface] 2 2 wr 27 rfl (by omega) (by simp) (.iface 24 (.int .i64 1)) rfl).mono ?_; rintro e w' ⟨rfl, hb⟩)
            go_ret
            exact ⟨rfl, HBW.out _ hb⟩
          · have hF' : F = 1 := by rw [← hF]; simp [fs, bAt]
            subst hF'
            clear hF hA2 hA3
            simp [blk, cv] at hA0 hA1
            go_wp2_with (go_at_call 26; refine (first_new [.iface 24 (.int .i64 1), .iface 24 (.int .i64 2)] 2 2 wr 27 rfl (by omega) (by simp) (.iface 24 (.int .i64 1)) rfl).mono ?_; rintro e w' ⟨rfl, hb⟩)
            go_ret
            exact ⟨rfl, HBW.out _ hb⟩
      by_cases c3 : c = 3
      · subst c3
        cases b0
        · cases b1
          · cases b2
            · have hF' : F = 0 := by rw [← hF]; simp [fs, bAt]
              subst hF'
              clear hF hA3
              simp [blk, cv] at hA0 hA1 hA2
              go_wp2_with (go_at_call 26; refine (first_new [.nilIface, .nilIface, .nilIface] 3 3 wr 27 rfl (by omega) (by simp) (.nilIface) rfl).mono ?_; rintro e w' ⟨rfl, hb⟩)
              go_ret
              exact ⟨rfl, HBW.out _ hb⟩
            · have hF' : F = 3 := by rw [← hF]; simp [fs, bAt]
              subst hF'
              clear hF hA3
              simp [blk, cv] at hA0 hA1 hA2
              go_wp2_with (go_at_call 26; refine (first_new [.nilIface, .nilIface, .iface 24 (.int .i64 3)] 3 3 wr 27 rfl (by omega) (by simp) (.iface 24 (.int .i64 3)) rfl).mono ?_; rintro e w' ⟨rfl, hb⟩)
              go_ret
              exact ⟨rfl, HBW.out _ hb⟩
          · cases b2
            · have hF' : F = 2 := by rw [← hF]; simp [fs, bAt]
              subst hF'
              clear hF hA3
              simp [blk, cv] at hA0 hA1 hA2
              go_wp2_with (go_at_call 26; refine (first_new [.nilIface, .iface 24 (.int .i64 2), .nilIface] 3 3 wr 27 rfl (by omega) (by simp) (.iface 24 (.int .i64 2)) rfl).mono ?_; rintro e w' ⟨rfl, hb⟩)
              go_ret
              exact ⟨rfl, HBW.out _ hb⟩
            · have hF' : F = 2 := by rw [← hF]; simp [fs, bAt]
              subst hF'
              clear hF hA3
              simp [blk, cv] at hA0 hA1 hA2
              go_wp2_with (go_at_call 26; refine (first_new [.nilIface, .iface 24 (.int .i64 2), .iface 24 (.int .i64 3)] 3 3 wr 27 rfl (by omega) (by simp) (.iface 24 (.int .i64 2)) rfl).mono ?_; rintro e w' ⟨rfl, hb⟩)
              go_ret
              exact ⟨rfl, HBW.out _ hb⟩
        · cases b1
          · cases b2
            · have hF' : F = 1 := by rw [← hF]; simp [fs, bAt]
              subst hF'
              clear hF hA3
              simp [blk, cv] at hA0 hA1 hA2
              go_wp2_with (go_at_call 26; refine (first_new [.iface 24 (.int .i64 1), .nilIface, .nilIface] 3 3 wr 27 rfl (by omega) (by simp) (.iface 24 (.int .i64 1)) rfl).mono ?_; rintro e w' ⟨rfl, hb⟩)
              go_ret
              exact ⟨rfl, HBW.out _ hb⟩
            · have hF' : F = 1 := by rw [← hF]; simp [fs, bAt]
              subst hF'
              clear hF hA3
              simp [blk, cv] at hA0 hA1 hA2
              go_wp2_with (go_at_call 26; refine (first_new [.iface 24 (.int .i64 1), .nilIface, .iface 24 (.int .i64 3)] 3 3 wr 27 rfl (by omega) (by simp) (.iface 24 (.int .i64 1)) rfl).mono ?_; rintro e w' ⟨rfl, hb⟩)
              go_ret
              exact ⟨rfl, HBW.out _ hb⟩
          · cases b2
            · have hF' : F = 1 := by rw [← hF]; simp [fs, bAt]
              subst hF'
              clear hF hA3
              simp [blk, cv] at hA0 hA1 hA2
              go_wp2_with (go_at_call 26; refine (first_new [.iface 24 (.int .i64 1), .iface 24 (.int .i64 2), .nilIface] 3 3 wr 27 rfl (by omega) (by simp) (.iface 24 (.int .i64 1)) rfl).mono ?_; rintro e w' ⟨rfl, hb⟩)
              go_ret
              exact ⟨rfl, HBW.out _ hb⟩
            · have hF' : F = 1 := by rw [← hF]; simp [fs, bAt]
              subst hF'
              clear hF hA3
              simp [blk, cv] at hA0 hA1 hA2
              go_wp2_with (go_at_call 26; refine (first_new [.iface 24 (.int .i64 1), .iface 24 (.int .i64 2), .iface 24 (.int .i64 3)] 3 3 wr 27 rfl (by omega) (by simp) (.iface 24 (.int .i64 1)) rfl).mono ?_; rintro e w' ⟨rfl, hb⟩)
              go_ret
              exact ⟨rfl, HBW.out _ hb⟩
      have e1 : (c == 1) = false := beq_eq_false_iff_ne.2 c1
      have e2 : (c == 2) = false := beq_eq_false_iff_ne.2 c2
      have e3 : (c == 3) = false := beq_eq_false_iff_ne.2 c3
      have d0 : (0 : Int) < c := by omega
      have d1 : (1 : Int) < c := by omega
      have d2 : (2 : Int) < c := by omega
      have d3 : (3 : Int) < c := by omega
      clear c1 c2 c3
      cases b0
      · cases b1
        · cases b2
          · cases b3
            · have hF' : F = 0 := by rw [← hF]; simp [fs, bAt, d0, d1, d2, d3]
              subst hF'
              clear hF
              simp [blk, cv] at hA0 hA1 hA2 hA3
              go_wp2_with (go_at_call 26; refine (first_new [.nilIface, .nilIface, .nilIface, .nilIface] 4 4 wr 27 rfl (by omega) (by simp) (.nilIface) rfl).mono ?_; rintro e w' ⟨rfl, hb⟩)
              go_ret
              exact ⟨rfl, HBW.out _ hb⟩
            · have hF' : F = 4 := by rw [← hF]; simp [fs, bAt, d0, d1, d2, d3]
              subst hF'
              clear hF
              simp [blk, cv] at hA0 hA1 hA2 hA3
              go_wp2_with (go_at_call 26; refine (first_new [.nilIface, .nilIface, .nilIface, .iface 24 (.int .i64 4)] 4 4 wr 27 rfl (by omega) (by simp) (.iface 24 (.int .i64 4)) rfl).mono ?_; rintro e w' ⟨rfl, hb⟩)
              go_ret
              exact ⟨rfl, HBW.out _ hb⟩
          · cases b3
            · have hF' : F = 3 := by rw [← hF]; simp [fs, bAt, d0, d1, d2, d3]
              subst hF'
              clear hF
              simp [blk, cv] at hA0 hA1 hA2 hA3
              go_wp2_with (go_at_call 26; refine (first_new [.nilIface, .nilIface, .iface 24 (.int .i64 3), .nilIface] 4 4 wr 27 rfl (by omega) (by simp) (.iface 24 (.int .i64 3)) rfl).mono ?_; rintro e w' ⟨rfl, hb⟩)
              go_ret
              exact ⟨rfl, HBW.out _ hb⟩
            · have hF' : F = 3 := by rw [← hF]; simp [fs, bAt, d0, d1, d2, d3]
              subst hF'
              clear hF
              simp [blk, cv] at hA0 hA1 hA2 hA3
              go_wp2_with (go_at_call 26; refine (first_new [.nilIface, .nilIface, .iface 24 (.int .i64 3), .iface 24 (.int .i64 4)] 4 4 wr 27 rfl (by omega) (by simp) (.iface 24 (.int .i64 3)) rfl).mono ?_; rintro e w' ⟨rfl, hb⟩)
              go_ret
              exact ⟨rfl, HBW.out _ hb⟩
        · cases b2
          · cases b3
            · have hF' : F = 2 := by rw [← hF]; simp [fs, bAt, d0, d1, d2, d3]
              subst hF'
              clear hF
              simp [blk, cv] at hA0 hA1 hA2 hA3
              go_wp2_with (go_at_call 26; refine (first_new [.nilIface, .iface 24 (.int .i64 2), .nilIface, .nilIface] 4 4 wr 27 rfl (by omega) (by simp) (.iface 24 (.int .i64 2)) rfl).mono ?_; rintro e w' ⟨rfl, hb⟩)
              go_ret
              exact ⟨rfl, HBW.out _ hb⟩
            · have hF' : F = 2 := by rw [← hF]; simp [fs, bAt, d0, d1, d2, d3]
              subst hF'
              clear hF
              simp [blk, cv] at hA0 hA1 hA2 hA3
              go_wp2_with (go_at_call 26; refine (first_new [.nilIface, .iface 24 (.int .i64 2), .nilIface, .iface 24 (.int .i64 4)] 4 4 wr 27 rfl (by omega) (by simp) (.iface 24 (.int .i64 2)) rfl).mono ?_; rintro e w' ⟨rfl, hb⟩)
              go_ret
              exact ⟨rfl, HBW.out _ hb⟩
          · cases b3
            · have hF' : F = 2 := by rw [← hF]; simp [fs, bAt, d0, d1, d2, d3]
              subst hF'
              clear hF
              simp [blk, cv] at hA0 hA1 hA2 hA3
              go_wp2_with (go_at_call 26; refine (first_new [.nilIface, .iface 24 (.int .i64 2), .iface 24 (.int .i64 3), .nilIface] 4 4 wr 27 rfl (by omega) (by simp) (.iface 24 (.int .i64 2)) rfl).mono ?_; rintro e w' ⟨rfl, hb⟩)
              go_ret
              exact ⟨rfl, HBW.out _ hb⟩
            · have hF' : F = 2 := by rw [← hF]; simp [fs, bAt, d0, d1, d2, d3]
              subst hF'
              clear hF
              simp [blk, cv] at hA0 hA1 hA2 hA3
              go_wp2_with (go_at_call 26; refine (first_new [.nilIface, .iface 24 (.int .i64 2), .iface 24 (.int .i64 3), .iface 24 (.int .i64 4)] 4 4 wr 27 rfl (by omega) (by simp) (.iface 24 (.int .i64 2)) rfl).mono ?_; rintro e w' ⟨rfl, hb⟩)
              go_ret
              exact ⟨rfl, HBW.out _ hb⟩
      · cases b1
        · cases b2
          · cases b3
            · have hF' : F = 1 := by rw [← hF]; simp [fs, bAt, d0, d1, d2, d3]
              subst hF'
              clear hF
              simp [blk, cv] at hA0 hA1 hA2 hA3
              go_wp2_with (go_at_call 26; refine (first_new [.iface 24 (.int .i64 1), .nilIface, .nilIface, .nilIface] 4 4 wr 27 rfl (by omega) (by simp) (.iface 24 (.int .i64 1)) rfl).mono ?_; rintro e w' ⟨rfl, hb⟩)
              go_ret
              exact ⟨rfl, HBW.out _ hb⟩
            · have hF' : F = 1 := by rw [← hF]; simp [fs, bAt, d0, d1, d2, d3]
              subst hF'
              clear hF
              simp [blk, cv] at hA0 hA1 hA2 hA3
              go_wp2_with (go_at_call 26; refine (first_new [.iface 24 (.int .i64 1), .nilIface, .nilIface, .iface 24 (.int .i64 4)] 4 4 wr 27 rfl (by omega) (by simp) (.iface 24 (.int .i64 1)) rfl).mono ?_; rintro e w' ⟨rfl, hb⟩)
              go_ret
              exact ⟨rfl, HBW.out _ hb⟩
          · cases b3
            · have hF' : F = 1 := by rw [← hF]; simp [fs, bAt, d0, d1, d2, d3]
              subst hF'
              clear hF
              simp [blk, cv] at hA0 hA1 hA2 hA3
              go_wp2_with (go_at_call 26; refine (first_new [.iface 24 (.int .i64 1), .nilIface, .iface 24 (.int .i64 3), .nilIface] 4 4 wr 27 rfl (by omega) (by simp) (.iface 24 (.int .i64 1)) rfl).mono ?_; rintro e w' ⟨rfl, hb⟩)
              go_ret
              exact ⟨rfl, HBW.out _ hb⟩
            · have hF' : F = 1 := by rw [← hF]; simp [fs, bAt, d0, d1, d2, d3]
              subst hF'
              clear hF
              simp [blk, cv] at hA0 hA1 hA2 hA3
              go_wp2_with (go_at_call 26; refine (first_new [.iface 24 (.int .i64 1), .nilIface, .iface 24 (.int .i64 3), .iface 24 (.int .i64 4)] 4 4 wr 27 rfl (by omega) (by simp) (.iface 24 (.int .i64 1)) rfl).mono ?_; rintro e w' ⟨rfl, hb⟩)
              go_ret
              exact ⟨rfl, HBW.out _ hb⟩
        · cases b2
          · cases b3
            · have hF' : F = 1 := by rw [← hF]; simp [fs, bAt, d0, d1, d2, d3]
              subst hF'
              clear hF
              simp [blk, cv] at hA0 hA1 hA2 hA3
              go_wp2_with (go_at_call 26; refine (first_new [.iface 24 (.int .i64 1), .iface 24 (.int .i64 2), .nilIface, .nilIface] 4 4 wr 27 rfl (by omega) (by simp) (.iface 24 (.int .i64 1)) rfl).mono ?_; rintro e w' ⟨rfl, hb⟩)
              go_ret
              exact ⟨rfl, HBW.out _ hb⟩
            · have hF' : F = 1 := by rw [← hF]; simp [fs, bAt, d0, d1, d2, d3]
              subst hF'
              clear hF
              simp [blk, cv] at hA0 hA1 hA2 hA3
              go_wp2_with (go_at_call 26; refine (first_new [.iface 24 (.int .i64 1), .iface 24 (.int .i64 2), .nilIface, .iface 24 (.int .i64 4)] 4 4 wr 27 rfl (by omega) (by simp) (.iface 24 (.int .i64 1)) rfl).mono ?_; rintro e w' ⟨rfl, hb⟩)
              go_ret
              exact ⟨rfl, HBW.out _ hb⟩
          · cases b3
            · have hF' : F = 1 := by rw [← hF]; simp [fs, bAt, d0, d1, d2, d3]
              subst hF'
              clear hF
              simp [blk, cv] at hA0 hA1 hA2 hA3
              go_wp2_with (go_at_call 26; refine (first_new [.iface 24 (.int .i64 1), .iface 24 (.int .i64 2), .iface 24 (.int .i64 3), .nilIface] 4 4 wr 27 rfl (by omega) (by simp) (.iface 24 (.int .i64 1)) rfl).mono ?_; rintro e w' ⟨rfl, hb⟩)
              go_ret
              exact ⟨rfl, HBW.out _ hb⟩
            · have hF' : F = 1 := by rw [← hF]; simp [fs, bAt, d0, d1, d2, d3]
              subst hF'
              clear hF
              simp [blk, cv] at hA0 hA1 hA2 hA3
              go_wp2_with (go_at_call 26; refine (first_new [.iface 24 (.int .i64 1), .iface 24 (.int .i64 2), .iface 24 (.int .i64 3), .iface 24 (.int .i64 4)] 4 4 wr 27 rfl (by omega) (by simp) (.iface 24 (.int .i64 1)) rfl).mono ?_; rintro e w' ⟨rfl, hb⟩)
              go_ret
              exact ⟨rfl, HBW.out _ hb⟩
end Go.Proofs.YtkmbffdjgpjojaaDoor
