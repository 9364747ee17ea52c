/- ref01.Shift: a told error with its places of a kind moved, in a new list; ref01's Bad: is it an error at all? -/
import Derived.Test.YtkmbffdjgpjojaaDoorTold
import Derived.Test.YtkmbffdjgpjojaaDoorShift
namespace Go.Proofs.YtkmbffdjgpjojaaDoor
open Go.RowKit Go.Extern

attribute [local go_sem] Oper.semAt_some

/-- the first k places of a list are moved. -/
def HasMix (w : World) (g : Nat) (kd by_ : Int) (ps : List (Int × Int)) (k : Nat) : Prop :=
  ∀ j p, ps[j]? = some p → w.cell? ⟨g, j * 2, none⟩ = some (.int .i64 p.1) ∧ w.cell? ⟨g, j * 2 + 1, none⟩ = some (.int .i64 (if j < k then (moved kd by_ p).2 else p.2))
theorem moved_one (kd by_ : Int) (p : Int × Int) : (moved kd by_ p).1 = p.1 := by unfold moved; split <;> rfl
theorem HasMix.same {w : World} {g : Nat} {kd by_ : Int} {ps : List (Int × Int)} {k : Nat} {p : Int × Int} (h : HasMix w g kd by_ ps k) (hp : ps[k]? = some p) (hne : p.1 ≠ kd) : HasMix w g kd by_ ps (k + 1) := fun j q hj => by
  obtain ⟨h0, h1⟩ := h j q hj
  refine ⟨h0, h1.trans ?_⟩
  by_cases hjk : j = k
  · subst hjk
    obtain rfl : p = q := Option.some.inj (hp.symm.trans hj)
    rw [if_neg (by omega), if_pos (by omega), moved, if_neg hne]
  · by_cases hlt : j < k
    · rw [if_pos hlt, if_pos (by omega)]
    · rw [if_neg hlt, if_neg (by omega)]
theorem HasMix.set {w : World} {g : Nat} {kd by_ : Int} {ps : List (Int × Int)} {k : Nat} {p : Int × Int} (h : HasMix w g kd by_ ps k) (hp : ps[k]? = some p) (he : p.1 = kd) : HasMix (w.setCell ⟨g, k * 2 + 1, none⟩ (.int .i64 (wrap64 (p.2 + by_)))) g kd by_ ps (k + 1) := fun j q hj => by
  obtain ⟨h0, h1⟩ := h j q hj
  refine ⟨(World.cell?_setCell_other w _ _ _ (by intro e; injection e with _ e; omega)).trans h0, ?_⟩
  by_cases hjk : j = k
  · subst hjk
    obtain rfl : p = q := Option.some.inj (hp.symm.trans hj)
    rw [World.cell?_setCell_same w _ _ h1, if_pos (by omega), moved, if_pos he]
  · rw [World.cell?_setCell_other w _ _ _ (by intro e; injection e with _ e; omega), h1]
    by_cases hlt : j < k
    · rw [if_pos hlt, if_pos (by omega)]
    · rw [if_neg hlt, if_neg (by omega)]
theorem HasMix.done {w : World} {g : Nat} {kd by_ : Int} {ps : List (Int × Int)} {cap : Nat} (h : HasMix w g kd by_ ps ps.length) (hl : g < w.heap.size) : HasPlaces w (.slice (some ⟨g, 0, none⟩) ps.length cap) (ps.map (moved kd by_)) := by
  refine ⟨_, cap, by rw [List.length_map], fun j q hj => ⟨g, 0, rfl, hl, ?_⟩⟩
  rw [List.getElem?_map] at hj
  obtain ⟨p, hp, rfl⟩ := Option.map_eq_some_iff.1 hj
  obtain ⟨h0, h1⟩ := h j p hp
  have hlt := (List.getElem?_eq_some_iff.1 hp).1
  rw [if_pos hlt] at h1
  rw [Nat.zero_add, moved_one]
  exact ⟨h0, h1⟩
theorem HasPlaces.other {w : World} {g n cap : Nat} {ps : List (Int × Int)} (h : HasPlaces w (.slice (some ⟨g, 0, none⟩) n cap) ps) {a : Addr} (ha : a.block ≠ g) (v : Value) : HasPlaces (w.setCell a v) (.slice (some ⟨g, 0, none⟩) n cap) ps := by
  obtain ⟨ao, cap', e, hc⟩ := h
  refine ⟨ao, cap', e, fun j p hj => ?_⟩
  obtain ⟨b, off, ea, hl, h0, h1⟩ := hc j p hj
  subst ea
  cases e
  refine ⟨g, 0, rfl, by simp; exact hl, ?_, ?_⟩
  · rw [World.cell?_setCell_other w _ _ _ (by intro e; exact ha (congrArg Addr.block e))]; exact h0
  · rw [World.cell?_setCell_other w _ _ _ (by intro e; exact ha (congrArg Addr.block e))]; exact h1
theorem mix_of_row {w : World} {base g cap : Nat} {ps : List (Int × Int)} (kd by_ : Int) (h : w.ownsRow base 34 2 (.slice (some ⟨g, 0, none⟩) ps.length cap) ps.length (flat ps)) : HasMix w g kd by_ ps 0 ∧ (∀ x, w.frozen? ⟨g, x, none⟩ = false) ∧ base ≤ g ∧ g < w.heap.size := by
  rcases h.2 with ⟨e, h0⟩ | ⟨g', cap', cur, e, hg, hh, _⟩
  · cases e
  · cases e
    refine ⟨fun j p hj => ?_, fun x => by simp [World.frozen?, hh], hg, lt_of_get hh⟩
    obtain ⟨hlt, he⟩ := List.getElem?_eq_some_iff.1 hj
    have h0 := (h.cellAt (2 * j) (by omega)).trans (flat_get ps j hlt).1
    have h1 := (h.cellAt (2 * j + 1) (by omega)).trans (flat_get ps j hlt).2
    rw [he] at h0 h1
    rw [if_neg (by omega), Nat.mul_comm j 2]
    exact ⟨h0, h1⟩

set_option maxRecDepth 100000 in
set_option maxHeartbeats 1000000 in
theorem refshift_calls (C kd by_ : Int) (mo : Option Addr) (mcap : Nat) (ps : List (Int × Int)) (w : World) (hl : HasPlaces w (.slice mo ps.length mcap) ps) (hn : ps.length ≤ 64) :
    Calls Tryd.prog 22 #[.agg #[.int .i64 C, .slice mo ps.length mcap], .int .i64 kd, .int .i64 by_] w fun e w' => ∃ lo lcap, e = .returned (.agg #[.int .i64 C, .slice lo ps.length lcap]) ∧ HasPlaces w' (.slice lo ps.length lcap) (ps.map (moved kd by_)) ∧ Below w.heap.size w w' := by
  obtain ⟨W0, hW0⟩ : ∃ W0, (w.alloc (.cells #[.int .i64 C, .slice mo ps.length mcap] 40)).alloc (.cells #[.int .i64 0, .slice none 0 0] 40) = W0 := ⟨_, rfl⟩
  have hB0 : Below w.heap.size w W0 := by rw [← hW0]; exact ((Below.refl _ w).alloc (Nat.le_refl _) _).alloc (by simp) _
  have hs0 : W0.heap.size = w.heap.size + 2 := by rw [← hW0]; simp
  have k0 : W0.heap[w.heap.size]? = some (.cells #[.int .i64 C, .slice mo ps.length mcap] 40) := by rw [← hW0, Below.heap_alloc _ _ _ (by simp)]; exact heap_new _ _
  have k1 : W0.heap[w.heap.size + 1]? = some (.cells #[.int .i64 0, .slice none 0 0] 40) := by
    have h := heap_new (w.alloc (.cells #[.int .i64 C, .slice mo ps.length mcap] 40)) (.cells #[.int .i64 0, .slice none 0 0] 40)
    rw [hW0] at h
    simpa using h
  have HW0 : Hid ((w.alloc (.cells #[.int .i64 C, .slice mo ps.length mcap] 40)).alloc (.cells #[.int .i64 0, .slice none 0 0] 40) = W0) := hW0
  have HB0 : Hid (Below w.heap.size w W0) := hB0
  have HK0 : Hid (W0.heap[w.heap.size]? = some (.cells #[.int .i64 C, .slice mo ps.length mcap] 40) ∧ W0.heap[w.heap.size + 1]? = some (.cells #[.int .i64 0, .slice none 0 0] 40)) := ⟨k0, k1⟩
  have HTW : Hid (Calls Tryd.prog 35 #[.slice mo ps.length mcap] W0 fun e w' => ∃ mv, e = .returned mv ∧ w'.ownsRow W0.heap.size 34 2 mv ps.length (flat ps) ∧ Below W0.heap.size W0 w') := twin_calls _ ps W0 (hl.keep hB0) hn
  clear hl k0 k1 hB0 hW0
  go_enter Tryd.func22, Tryd.ntmps22
  go_wp2_with fail
  rw [HW0.out]
  refine HTW.out.mono ?_
  rintro e w1 ⟨mv, rfl, hrow, hb1⟩
  obtain ⟨lo, lcap, hmv⟩ := row_slice hrow
  subst hmv
  have HB1 : Hid (Below w.heap.size w w1) := HB0.out.trans (hb1.mono HB0.out.size)
  have HK1 : Hid (w1.heap[w.heap.size]? = some (.cells #[.int .i64 C, .slice mo ps.length mcap] 40) ∧ w1.heap[w.heap.size + 1]? = some (.cells #[.int .i64 0, .slice none 0 0] 40)) := ⟨(hb1.block _ (by omega)).trans HK0.out.1, (hb1.block _ (by omega)).trans HK0.out.2⟩
  have HR : Hid (w1.ownsRow W0.heap.size 34 2 (.slice lo ps.length lcap) ps.length (flat ps)) := hrow
  clear hb1 hrow
  have hlo : (∃ g, lo = some ⟨g, 0, none⟩) ∨ (lo = none ∧ ps = []) := by
    rcases HR.out.2 with ⟨e, h0⟩ | ⟨g, cap, cur, e, _⟩
    · injection e with e1 e2 e3; exact Or.inr ⟨e1, List.eq_nil_of_length_eq_zero h0⟩
    · injection e with e1 e2 e3; exact Or.inl ⟨g, e1⟩
  rcases hlo with ⟨g, hlo⟩ | ⟨hlo, hps⟩
  · subst hlo
    have HX : Hid (HasMix w1 g kd by_ ps 0 ∧ (∀ x, w1.frozen? ⟨g, x, none⟩ = false) ∧ W0.heap.size ≤ g ∧ g < w1.heap.size) := mix_of_row kd by_ HR.out
    have hgb : w.heap.size + 1 < g := by have := HX.out.2.2.1; omega
    go_wp2_with fail
    go_loopw [14] (fun iv wr => ∃ k : Nat, k ≤ ps.length ∧ iv = .int .i64 k ∧ HasMix wr g kd by_ ps k ∧ (∀ x, wr.frozen? ⟨g, x, none⟩ = false) ∧ g < wr.heap.size ∧ Below w.heap.size w wr ∧ wr.heap[w.heap.size]? = some (.cells #[.int .i64 C, .slice mo ps.length mcap] 40) ∧ wr.heap[w.heap.size + 1]? = some (.cells #[.int .i64 0, .slice none 0 0] 40)) (fun iv _ => ps.length - (intOf iv).toNat)
    case atStart => exact ⟨0, Nat.zero_le _, rfl, HX.out.1, HX.out.2.1, HX.out.2.2.2, HB1.out, HK1.out.1, HK1.out.2⟩
    case round =>
      obtain ⟨k, hk, rfl, hmx, hfz, hgl, hbw, hk0, hk1⟩ := hrel
      have HMX : Hid (HasMix wr g kd by_ ps k) := hmx
      have HFZ : Hid (∀ x, wr.frozen? ⟨g, x, none⟩ = false) := hfz
      have HBW : Hid (Below w.heap.size w wr) := hbw
      have HKK : Hid (wr.heap[w.heap.size]? = some (.cells #[.int .i64 C, .slice mo ps.length mcap] 40) ∧ wr.heap[w.heap.size + 1]? = some (.cells #[.int .i64 0, .slice none 0 0] 40)) := ⟨hk0, hk1⟩
      clear hmx hfz hbw hk0 hk1
      by_cases hlt : k < ps.length
      · obtain ⟨p, hp⟩ : ∃ p, ps[k]? = some p := ⟨ps[k], List.getElem?_eq_getElem hlt⟩
        obtain ⟨c0, c1⟩ := HMX.out k p hp
        rw [if_neg (Nat.lt_irrefl _)] at c1
        have z1 := HFZ.out (k * 2 + 1)
        have HP : Hid (ps[k]? = some p) := hp
        clear hp
        by_cases he : p.1 = kd
        · have HSET := HMX.out.set HP.out he
          have HS : Hid (HasMix (wr.setCell ⟨g, k * 2 + 1, none⟩ (.int .i64 (wrap64 (p.2 + by_)))) g kd by_ ps (k + 1)) := HSET
          clear HSET
          rw [he] at c0
          go_wp2
          go_roundw
          case rel => exact ⟨k + 1, by omega, by go_num, HS.out, fun x => by rw [World.frozen?_setCell]; exact HFZ.out x, by simp; exact hgl, HBW.out.setCell (p := ⟨g, k * 2 + 1, none⟩) (by show w.heap.size ≤ g; omega) _, (heap_setCell_other wr ⟨g, k * 2 + 1, none⟩ _ _ (by show w.heap.size ≠ g; omega)).trans HKK.out.1, (heap_setCell_other wr ⟨g, k * 2 + 1, none⟩ _ _ (by show w.heap.size + 1 ≠ g; omega)).trans HKK.out.2⟩
          case measure => simp [intOf]; omega
        · have he' : (p.1 == kd) = false := by simpa using he
          have HS : Hid (HasMix wr g kd by_ ps (k + 1)) := HMX.out.same HP.out he
          go_wp2
          go_roundw
          case rel => exact ⟨k + 1, by omega, by go_num, HS.out, HFZ.out, hgl, HBW.out, HKK.out.1, HKK.out.2⟩
          case measure => simp [intOf]; omega
      · obtain rfl : k = ps.length := by omega
        obtain ⟨a0, a1, z0, z1⟩ := cell_two HKK.out.1
        obtain ⟨b0, b1, y0, y1⟩ := cell_two HKK.out.2
        have HD : Hid (HasPlaces wr (.slice (some ⟨g, 0, none⟩) ps.length lcap) (ps.map (moved kd by_)) ∧ g < wr.heap.size) := ⟨HMX.out.done hgl, hgl⟩
        go_wp2
        refine bodyPost_ret (v := .agg #[.int .i64 C, .slice (some ⟨g, 0, none⟩) ps.length lcap]) (by simp [results, Tryd.results22, go_sem, b0, b1]) rfl ⟨_, _, rfl, ?_, ?_⟩
        · exact (HD.out.1.other (a := ⟨w.heap.size + 1, 0, none⟩) (by show w.heap.size + 1 ≠ g; omega) _).other (a := ⟨w.heap.size + 1, 1, none⟩) (by show w.heap.size + 1 ≠ g; omega) _
        · exact (HBW.out.setCell (p := ⟨w.heap.size + 1, 0, none⟩) (by simp) _).setCell (p := ⟨w.heap.size + 1, 1, none⟩) (by simp) _
  · subst hlo
    subst hps
    obtain ⟨a0, a1, z0, z1⟩ := cell_two HK1.out.1
    obtain ⟨b0, b1, y0, y1⟩ := cell_two HK1.out.2
    go_wp2_with fail
    refine wp_loop_rounds 1 ?_
    rw [rounds_succ]
    go_wp2
    refine bodyPost_ret (v := .agg #[.int .i64 C, .slice none 0 lcap]) (by simp [results, Tryd.results22, go_sem, b0, b1]) rfl ⟨_, _, rfl, ⟨_, _, rfl, fun j p hj => by simp at hj⟩, ?_⟩
    exact (HB1.out.setCell (p := ⟨w.heap.size + 1, 0, none⟩) (by simp) _).setCell (p := ⟨w.heap.size + 1, 1, none⟩) (by simp) _

set_option maxHeartbeats 1000000 in
theorem bad_calls (C : Int) (mo : Option Addr) (l cap : Nat) (w : World) :
    Calls Tryd.prog 23 #[.agg #[.int .i64 C, .slice mo l cap]] w fun e w' => e = .returned (.bool (C != 0 || decide (0 < l))) ∧ Below w.heap.size w w' := by
  have HB : Hid (Below w.heap.size w (w.alloc (.cells #[.int .i64 C, .slice mo l cap] 40))) := (Below.refl _ w).alloc (Nat.le_refl _) _
  by_cases hC : C = 0
  · subst hC
    by_cases hl : 0 < l
    · have h1 : decide (0 < l) = true := decide_eq_true hl
      have h2 : decide ((0 : Int) < (l : Int)) = true := decide_eq_true (by omega)
      rw [h1]
      go_enter Tryd.func23, Tryd.ntmps23
      go_wp2
      go_ret
      exact ⟨rfl, HB.out⟩
    · obtain rfl : l = 0 := by omega
      go_enter Tryd.func23, Tryd.ntmps23
      go_wp2
      go_ret
      exact ⟨rfl, HB.out⟩
  · have h1 : (C != 0) = true := by simpa using hC
    rw [h1, Bool.true_or]
    go_enter Tryd.func23, Tryd.ntmps23
    go_wp2
    go_ret
    exact ⟨rfl, HB.out⟩
end Go.Proofs.YtkmbffdjgpjojaaDoor
