/- slices.Clone at words and links: copies in new memory. (genclone.py) -/
import Derived.Test.YtkehpmbnbknpfaaHsA
import Derived.Lib.SliceRun
namespace Go.Proofs.Ytkehpmbnbknpfaa.Hi
open Go.RowKit Go.Extern Go.Shelf

attribute [local go_sem] Oper.semAt_some

theorem ws_cells {w : World} {ad : Addr} {n cap : Nat} {xs : List Nat} (h : HasWs w (.slice (some ad) n cap) xs) : ∀ j u, (wvs xs)[j]? = some u → w.cell? (ad.add j) = some u := fun j u hj => by
  unfold wvs at hj
  rw [List.getElem?_map] at hj
  obtain ⟨a, ha, rfl⟩ := Option.map_eq_some_iff.1 hj
  obtain ⟨_, b', off', e, _, q⟩ := h.at ha
  cases e
  rw [Addr.add_lit]
  exact q
theorem ls_cells {w : World} {ad : Addr} {n cap : Nat} {xs : List Lk} (h : HasLs w (.slice (some ad) n cap) xs) : ∀ j u, (lvs xs)[j]? = some u → w.cell? (ad.add j) = some u := fun j u hj => by
  have hlt : j < xs.length * 4 := by have := (List.getElem?_eq_some_iff.1 hj).1; rw [lvs_len] at this; exact this
  have hx : xs[j / 4]? = some xs[j / 4] := List.getElem?_eq_getElem (by omega)
  obtain ⟨_, b, off, e, _, h0, h1, h2, h3⟩ := h.at hx
  obtain ⟨g0, g1, g2, g3⟩ := lvs_get xs (j / 4) _ hx
  obtain rfl : ad = ⟨b, off, none⟩ := Option.some.inj e
  rw [Addr.add_lit]
  rcases (show j = j / 4 * 4 ∨ j = j / 4 * 4 + 1 ∨ j = j / 4 * 4 + 2 ∨ j = j / 4 * 4 + 3 by omega) with hj' | hj' | hj' | hj'
  · rw [hj'] at hj ⊢; rw [g0] at hj; cases hj; exact h0
  · rw [hj'] at hj ⊢; rw [g1] at hj; cases hj; exact h1
  · rw [hj'] at hj ⊢; rw [g2] at hj; cases hj; exact h2
  · rw [hj'] at hj ⊢; rw [g3] at hj; cases hj; exact h3
theorem own_empty (w : World) (T : TypeId) (z : Nat) : (w.alloc (.cells #[] T)).ownsRow w.heap.size T z (.slice (some ⟨w.heap.size, 0, none⟩) 0 0) 0 [] := ⟨by simp, .inr ⟨w.heap.size, 0, #[], rfl, Nat.le_refl _, heap_newW _ _, Nat.le_refl _, Nat.zero_le _, by simp, by simp⟩⟩

set_option maxRecDepth 100000 in
set_option maxHeartbeats 1000000 in
theorem cloneW_some (ad : Addr) (lc : Nat) (xs : List Nat) (w : World) (hl : HasWs w (.slice (some ad) xs.length lc) xs) (hm : xs.length * 4 ≤ 140737488351232) :
    Calls Try.prog 23 #[.slice (some ad) xs.length lc] w fun e w' => ∃ so sc, e = .returned (.slice so xs.length sc) ∧ w'.ownsRow w.heap.size 43 1 (.slice so xs.length sc) xs.length (wvs xs) ∧ Below w.heap.size w w' := by
  have HL : Hid (HasWs w (.slice (some ad) xs.length lc) xs) := hl
  obtain ⟨i0, hi9, hzz⟩ := Option.map_eq_some_iff.1 infoWs
  simp only [Prod.mk.injEq] at hzz
  have HI : Hid (Try.prog.info? 43 = some i0 ∧ i0.zero = some (.int .u32 0) ∧ i0.size = 1 ∧ i0.bytes = 4) := ⟨hi9, hzz⟩
  have hnil : ∀ wx, (binOp .eql 22 (.slice (some ad) xs.length lc) (.slice none 0 0)).run Try.prog wx = .ok (.bool false) wx := fun wx => Lib.run_eql_slice_nil wx 22 43 (some ad) xs.length lc 0 0 Try.underlying22
  have HE : Hid (type_of% (own_empty w 43 1)) := own_empty w 43 1
  have HB : Hid (Below w.heap.size w (w.alloc (.cells #[] 43))) := (Below.refl _ w).alloc (Nat.le_refl _) _
  clear hl hi9 hzz
  go_enter Try.func23, Try.ntmps23
  go_wp2_with (at_builtin; refine wpList_append_own _ rfl _ _ 22 rfl w.heap.size 43 i0 (.int .u32 0) 1 4 Try.underlying22 HI.out.1 HI.out.2.1 HI.out.2.2.1 HI.out.2.2.2 rfl (by decide) _ 0 [] rfl HE.out ad xs.length lc (wvs xs) rfl (wvs_len xs) (ws_cells (HL.out.keep HB.out)) (wvs_one _) (by unfold maxLen; omega) (by omega) HB.out.size ?_; intro v5 w5 hown5 hgr5 _; have H5 : Hid (w5.ownsRow w.heap.size 43 1 v5 xs.length (wvs xs) ∧ Below w.heap.size w w5) := ⟨by simpa using hown5, below_grown HB.out HE.out hgr5 HB.out.size⟩; clear hown5 hgr5; obtain ⟨po, pc, hv5⟩ := own_slice H5.out.1; subst hv5)
  go_ret
  exact ⟨po, pc, rfl, H5.out.1, H5.out.2⟩
set_option maxRecDepth 100000 in
theorem cloneW_nil (lc : Nat) (w : World) : Calls Try.prog 23 #[.slice none 0 lc] w fun e w' => e = .returned (.slice none 0 0) ∧ w' = w := by
  have hnil : ∀ wx, (binOp .eql 22 (.slice none 0 lc) (.slice none 0 0)).run Try.prog wx = .ok (.bool true) wx := fun wx => Lib.run_eql_slice_nil wx 22 43 none 0 lc 0 0 Try.underlying22
  go_enter Try.func23, Try.ntmps23
  go_wp2
  go_ret
  exact ⟨rfl, rfl⟩
theorem cloneW_calls (lo : Option Addr) (lc : Nat) (xs : List Nat) (w : World) (hl : HasWs w (.slice lo xs.length lc) xs) (hm : xs.length * 4 ≤ 140737488351232) :
    Calls Try.prog 23 #[.slice lo xs.length lc] w fun e w' => ∃ so sc, e = .returned (.slice so xs.length sc) ∧ w'.ownsRow w.heap.size 43 1 (.slice so xs.length sc) xs.length (wvs xs) ∧ Below w.heap.size w w' := by
  cases lo with
  | none =>
    have hx : xs = [] := by
      cases xs with
      | nil => rfl
      | cons q r => obtain ⟨_, b, off, e, _⟩ := hl.at (j := 0) (l := q) rfl; cases e
    subst hx
    refine (cloneW_nil lc w).mono ?_
    rintro e w' ⟨rfl, rfl⟩
    exact ⟨none, 0, rfl, World.ownsRow_nil _ _ _ _, Below.refl _ _⟩
  | some a => exact cloneW_some a lc xs w hl hm

set_option maxRecDepth 100000 in
set_option maxHeartbeats 1000000 in
theorem cloneL_some (ad : Addr) (lc : Nat) (xs : List Lk) (w : World) (hl : HasLs w (.slice (some ad) xs.length lc) xs) (hm : xs.length * 24 ≤ 140737488351232) :
    Calls Try.prog 24 #[.slice (some ad) xs.length lc] w fun e w' => ∃ so sc, e = .returned (.slice so xs.length sc) ∧ w'.ownsRow w.heap.size 47 4 (.slice so xs.length sc) xs.length (lvs xs) ∧ Below w.heap.size w w' := by
  have HL : Hid (HasLs w (.slice (some ad) xs.length lc) xs) := hl
  obtain ⟨i0, hi9, hzz⟩ := Option.map_eq_some_iff.1 infoLs
  simp only [Prod.mk.injEq] at hzz
  have HI : Hid (Try.prog.info? 47 = some i0 ∧ i0.zero = some (.agg #[.int .u32 0, .int .u64 0, .int .u32 0, .int .u32 0]) ∧ i0.size = 4 ∧ i0.bytes = 24) := ⟨hi9, hzz⟩
  have hnil : ∀ wx, (binOp .eql 23 (.slice (some ad) xs.length lc) (.slice none 0 0)).run Try.prog wx = .ok (.bool false) wx := fun wx => Lib.run_eql_slice_nil wx 23 47 (some ad) xs.length lc 0 0 Try.underlying23
  have HE : Hid (type_of% (own_empty w 47 4)) := own_empty w 47 4
  have HB : Hid (Below w.heap.size w (w.alloc (.cells #[] 47))) := (Below.refl _ w).alloc (Nat.le_refl _) _
  clear hl hi9 hzz
  go_enter Try.func24, Try.ntmps24
  go_wp2_with (at_builtin; refine wpList_append_own _ rfl _ _ 23 rfl w.heap.size 47 i0 (.agg #[.int .u32 0, .int .u64 0, .int .u32 0, .int .u32 0]) 4 24 Try.underlying23 HI.out.1 HI.out.2.1 HI.out.2.2.1 HI.out.2.2.2 rfl (by decide) _ 0 [] rfl HE.out ad xs.length lc (lvs xs) rfl (lvs_len xs) (ls_cells (HL.out.keep HB.out)) (lvs_one _) (by unfold maxLen; omega) (by omega) HB.out.size ?_; intro v5 w5 hown5 hgr5 _; have H5 : Hid (w5.ownsRow w.heap.size 47 4 v5 xs.length (lvs xs) ∧ Below w.heap.size w w5) := ⟨by simpa using hown5, below_grown HB.out HE.out hgr5 HB.out.size⟩; clear hown5 hgr5; obtain ⟨po, pc, hv5⟩ := own_slice H5.out.1; subst hv5)
  go_ret
  exact ⟨po, pc, rfl, H5.out.1, H5.out.2⟩
set_option maxRecDepth 100000 in
theorem cloneL_nil (lc : Nat) (w : World) : Calls Try.prog 24 #[.slice none 0 lc] w fun e w' => e = .returned (.slice none 0 0) ∧ w' = w := by
  have hnil : ∀ wx, (binOp .eql 23 (.slice none 0 lc) (.slice none 0 0)).run Try.prog wx = .ok (.bool true) wx := fun wx => Lib.run_eql_slice_nil wx 23 47 none 0 lc 0 0 Try.underlying23
  go_enter Try.func24, Try.ntmps24
  go_wp2
  go_ret
  exact ⟨rfl, rfl⟩
theorem cloneL_calls (lo : Option Addr) (lc : Nat) (xs : List Lk) (w : World) (hl : HasLs w (.slice lo xs.length lc) xs) (hm : xs.length * 24 ≤ 140737488351232) :
    Calls Try.prog 24 #[.slice lo xs.length lc] w fun e w' => ∃ so sc, e = .returned (.slice so xs.length sc) ∧ w'.ownsRow w.heap.size 47 4 (.slice so xs.length sc) xs.length (lvs xs) ∧ Below w.heap.size w w' := by
  cases lo with
  | none =>
    have hx : xs = [] := by
      cases xs with
      | nil => rfl
      | cons q r => obtain ⟨_, b, off, e, _⟩ := hl.at (j := 0) (l := q) rfl; cases e
    subst hx
    refine (cloneL_nil lc w).mono ?_
    rintro e w' ⟨rfl, rfl⟩
    exact ⟨none, 0, rfl, World.ownsRow_nil _ _ _ _, Below.refl _ _⟩
  | some a => exact cloneL_some a lc xs w hl hm
end Go.Proofs.Ytkehpmbnbknpfaa.Hi
