/- the reference's Words and Links: copies in new memory. (gencopy.py) -/
import Derived.Test.YtodilocmfdeehaaGreatDoorHrQ
import Derived.Test.YtodilocmfdeehaaGreatDoorHrG
import Derived.Test.YtodilocmfdeehaaGreatDoorHrY
namespace Go.Proofs.YtodilocmfdeehaaGreatDoor.Hi
open Go.RowKit Go.Extern Go.Shelf

attribute [local go_sem] Oper.semAt_some

theorem infoWs : (Tryz.prog.info? 62).map (fun i => (i.zero, i.size, i.bytes)) = some (some (.int .u32 0), 1, 4) := by kernel_rfl
theorem infoLs : (Tryz.prog.info? 65).map (fun i => (i.zero, i.size, i.bytes)) = some (some (.agg #[.int .u32 0, .int .u64 0, .int .u32 0, .int .u32 0]), 4, 24) := by kernel_rfl
theorem own_slice {w : World} {B n z : Nat} {T : TypeId} {v : Value} {xs : List Value} (h : w.ownsRow B T z v n xs) : ∃ ao cap, v = .slice ao n cap := by
  rcases h.2 with ⟨h, h'⟩ | ⟨g, cap, cur, h, _⟩
  · exact ⟨none, 0, by rw [h']; exact h⟩
  · exact ⟨_, cap, h⟩
theorem below_grown {w0 w w' : World} {base n z : Nat} {T : TypeId} {xs : List Value} {v : Value} (hb : Below base w0 w) (h : w.ownsRow base T z v n xs) (hg : w.grownBy w' v.ownBlock) (hs : base ≤ w.heap.size) : Below base w0 w' :=
  hb.trans ⟨hg.os, hg.tape, hg.output, hg.size, fun j hj => hg.block j (Nat.lt_of_lt_of_le hj hs) (fun e => by have := (h.lt j e.symm).1; omega)⟩
theorem wvs_append (l r : List Nat) : wvs (l ++ r) = wvs l ++ wvs r := by simp [wvs]
theorem lvs_append (l r : List Lk) : lvs (l ++ r) = lvs l ++ lvs r := by simp [lvs]
theorem wvs_one (l : List Nat) : ∀ u ∈ wvs l, u.oneCell' = true := by
  intro u hu
  simp [wvs] at hu
  obtain ⟨a, _, rfl⟩ := hu
  rfl
theorem lvs_one (l : List Lk) : ∀ u ∈ lvs l, u.oneCell' = true := by
  intro u hu
  simp [lvs] at hu
  obtain ⟨a, _, rfl | rfl | rfl | rfl⟩ := hu <;> rfl
theorem new_cells (W : World) (c : List Value) (T : TypeId) : ∀ j u, c[j]? = some u → (W.alloc (.cells c.toArray T)).cell? ((⟨W.heap.size, 0, none⟩ : Addr).add j) = some u := fun j u hj => by
  have hh := heap_newW W (.cells c.toArray T)
  generalize W.alloc (.cells c.toArray T) = W' at hh
  have e : (⟨W.heap.size, 0, none⟩ : Addr).add j = ⟨W.heap.size, j, none⟩ := by
    by_cases h0 : j = 0
    · subst h0; rfl
    · simp [Addr.add, h0]
  rw [e]
  simp [World.cell?, hh, hj]
theorem ws_of_own {w : World} {B : Nat} {v : Value} {l : List Nat} (h : w.ownsRow B 62 1 v l.length (wvs l)) (hok : ∀ x ∈ l, x < 4294967296) : HasWs w v l := by
  rcases h.2 with ⟨e, h0⟩ | ⟨g, cap, cur, rfl, hg, hh, hc, _⟩
  · have : l = [] := List.eq_nil_of_length_eq_zero h0
    subst this
    exact ⟨none, 0, e, Nat.le_refl _, fun j p hj => by simp at hj⟩
  · refine ⟨_, cap, rfl, hc, fun j a hj => ⟨hok a (List.mem_of_getElem? hj), g, 0, rfl, some_lt hh, ?_⟩⟩
    have hlt := (List.getElem?_eq_some_iff.1 hj).1
    rw [Nat.zero_add]
    exact (h.cellAt j (by omega)).trans (by simp [wvs, hj])
theorem ls_of_own {w : World} {B : Nat} {v : Value} {l : List Lk} (h : w.ownsRow B 65 4 v l.length (lvs l)) (hok : ∀ x ∈ l, x.ok) : HasLs w v l := by
  rcases h.2 with ⟨e, h0⟩ | ⟨g, cap, cur, rfl, hg, hh, hc, _⟩
  · have : l = [] := List.eq_nil_of_length_eq_zero h0
    subst this
    exact ⟨none, 0, e, Nat.le_refl _, fun j p hj => by simp at hj⟩
  · refine ⟨_, cap, rfl, hc, fun j a hj => ⟨hok a (List.mem_of_getElem? hj), g, 0, rfl, some_lt hh, ?_⟩⟩
    have hlt := (List.getElem?_eq_some_iff.1 hj).1
    obtain ⟨g0, g1, g2, g3⟩ := lvs_get l j a hj
    simp only [Nat.zero_add]
    exact ⟨(h.cellAt (j * 4) (by omega)).trans g0, (h.cellAt (j * 4 + 1) (by omega)).trans g1, (h.cellAt (j * 4 + 2) (by omega)).trans g2, (h.cellAt (j * 4 + 3) (by omega)).trans g3⟩
theorem HasWs.ok {w : World} {lv : Value} {L : List Nat} (h : HasWs w lv L) : ∀ x ∈ L, x < 4294967296 := by
  intro x hx
  obtain ⟨_, _, _, _, hc⟩ := h
  obtain ⟨j, hj, e⟩ := List.mem_iff_getElem.1 hx
  exact (hc j x (by rw [List.getElem?_eq_getElem hj, e])).1

set_option maxRecDepth 100000 in
set_option maxHeartbeats 2000000 in
theorem twords_calls (lo : Option Addr) (lc : Nat) (l : List Nat) (w : World) (hl : HasWs w (.slice lo l.length lc) l) (hm : l.length * 4 ≤ 140737488351232) :
    Calls Tryz.prog 33 #[.slice lo l.length lc] w fun e w' => ∃ mo mc, e = .returned (.slice mo l.length mc) ∧ w'.ownsRow w.heap.size 62 1 (.slice mo l.length mc) l.length (wvs l) ∧ Below w.heap.size w w' := by
  have HL : Hid (HasWs w (.slice lo l.length lc) l) := hl
  obtain ⟨i0, hi9, hzz⟩ := Option.map_eq_some_iff.1 infoWs
  simp only [Prod.mk.injEq] at hzz
  have HI : Hid (Tryz.prog.info? 62 = some i0 ∧ i0.zero = some (.int .u32 0) ∧ i0.size = 1 ∧ i0.bytes = 4) := ⟨hi9, hzz⟩
  clear hl hi9 hzz
  go_enter Tryz.func33, Tryz.ntmps33
  go_wp2_with fail
  go_loopw [3, 8] (fun mv nv wr => ∃ (k : Nat) (so : Option Addr) (sc : Nat), k ≤ l.length ∧ nv = .int .i64 k ∧ mv = .slice so k sc ∧ wr.ownsRow w.heap.size 62 1 (.slice so k sc) k (wvs (l.take k)) ∧ Below w.heap.size w wr) (fun _ nv _ => l.length - (intOf nv).toNat)
  case atStart => exact ⟨0, none, 0, Nat.zero_le _, rfl, rfl, World.ownsRow_nil _ _ _ _, Below.refl _ _⟩
  case round =>
    obtain ⟨k, so, sc, hk, rfl, rfl, hO, hB⟩ := hrel
    have HK : Hid (wr.ownsRow w.heap.size 62 1 (.slice so k sc) k (wvs (l.take k)) ∧ Below w.heap.size w wr) := ⟨hO, hB⟩
    by_cases hlt : k < l.length
    · obtain ⟨a, ha⟩ : ∃ a, l[k]? = some a := ⟨l[k], List.getElem?_eq_getElem hlt⟩
      obtain ⟨_, b, off, hlo, hbl, c0⟩ := (HL.out.keep hB).at ha
      subst hlo
      have HT1 : Hid (l.take (k + 1) = l.take k ++ [a]) := by show _ = _; rw [List.take_add_one, ha]; rfl
      have i1 : (k : Int) < (l.length : Int) := by omega
      have i2 : (0 : Int) ≤ (k : Int) := by omega
      clear ha hO hB
      go_wp2_with (at_builtin; refine wpList_append_own _ rfl _ _ 22 rfl w.heap.size 62 i0 (.int .u32 0) 1 4 Tryz.underlying22 HI.out.1 HI.out.2.1 HI.out.2.2.1 HI.out.2.2.2 rfl (by decide) _ k (wvs (l.take k)) rfl (HK.out.1.alloc _) ⟨wr.heap.size, 0, none⟩ 1 1 (wvs [a]) rfl rfl (new_cells wr (wvs [a]) 62) (wvs_one _) (by unfold maxLen; omega) (by omega) (by have := HK.out.2.size; simp; omega) ?_; intro v5 w5 hown5 hgr5 _; have H5 : Hid (w5.ownsRow w.heap.size 62 1 v5 (k + 1) (wvs (l.take (k + 1))) ∧ Below w.heap.size w w5) := ⟨by rw [HT1.out, wvs_append]; exact hown5, below_grown (HK.out.2.alloc HK.out.2.size _) (HK.out.1.alloc _) hgr5 (by have := HK.out.2.size; simp; omega)⟩; clear hown5 hgr5; obtain ⟨po, pc, hv5⟩ := own_slice H5.out.1; subst hv5)
      exact ⟨⟨k + 1, po, pc, by omega, by rw [show (k : Int) + 1 = ((k + 1 : Nat) : Int) by omega], rfl, H5.out.1, H5.out.2⟩, by simp only [intOf]; omega⟩
    · obtain rfl : k = l.length := by omega
      have HK2 : Hid (wr.ownsRow w.heap.size 62 1 (.slice so l.length sc) l.length (wvs l) ∧ Below w.heap.size w wr) := ⟨by rw [List.take_length] at hO; exact hO, hB⟩
      clear hO hB HK
      go_wp2_with fail
      go_ret
      exact ⟨so, sc, rfl, HK2.out.1, HK2.out.2⟩

set_option maxRecDepth 100000 in
set_option maxHeartbeats 2000000 in
theorem tlinks_calls (lo : Option Addr) (lc : Nat) (l : List Lk) (w : World) (hl : HasLs w (.slice lo l.length lc) l) (hm : l.length * 24 ≤ 140737488351232) :
    Calls Tryz.prog 34 #[.slice lo l.length lc] w fun e w' => ∃ mo mc, e = .returned (.slice mo l.length mc) ∧ w'.ownsRow w.heap.size 65 4 (.slice mo l.length mc) l.length (lvs l) ∧ Below w.heap.size w w' := by
  have HL : Hid (HasLs w (.slice lo l.length lc) l) := hl
  obtain ⟨i0, hi9, hzz⟩ := Option.map_eq_some_iff.1 infoLs
  simp only [Prod.mk.injEq] at hzz
  have HI : Hid (Tryz.prog.info? 65 = some i0 ∧ i0.zero = some (.agg #[.int .u32 0, .int .u64 0, .int .u32 0, .int .u32 0]) ∧ i0.size = 4 ∧ i0.bytes = 24) := ⟨hi9, hzz⟩
  clear hl hi9 hzz
  go_enter Tryz.func34, Tryz.ntmps34
  go_wp2_with fail
  go_loopw [3, 8] (fun mv nv wr => ∃ (k : Nat) (so : Option Addr) (sc : Nat), k ≤ l.length ∧ nv = .int .i64 k ∧ mv = .slice so k sc ∧ wr.ownsRow w.heap.size 65 4 (.slice so k sc) k (lvs (l.take k)) ∧ Below w.heap.size w wr) (fun _ nv _ => l.length - (intOf nv).toNat)
  case atStart => exact ⟨0, none, 0, Nat.zero_le _, rfl, rfl, World.ownsRow_nil _ _ _ _, Below.refl _ _⟩
  case round =>
    obtain ⟨k, so, sc, hk, rfl, rfl, hO, hB⟩ := hrel
    have HK : Hid (wr.ownsRow w.heap.size 65 4 (.slice so k sc) k (lvs (l.take k)) ∧ Below w.heap.size w wr) := ⟨hO, hB⟩
    by_cases hlt : k < l.length
    · obtain ⟨a, ha⟩ : ∃ a, l[k]? = some a := ⟨l[k], List.getElem?_eq_getElem hlt⟩
      obtain ⟨_, b, off, hlo, hbl, c0, c1, c2, c3⟩ := (HL.out.keep hB).at ha
      subst hlo
      have HT1 : Hid (l.take (k + 1) = l.take k ++ [a]) := by show _ = _; rw [List.take_add_one, ha]; rfl
      have i1 : (k : Int) < (l.length : Int) := by omega
      have i2 : (0 : Int) ≤ (k : Int) := by omega
      clear ha hO hB
      go_wp2_with (at_builtin; refine wpList_append_own _ rfl _ _ 23 rfl w.heap.size 65 i0 (.agg #[.int .u32 0, .int .u64 0, .int .u32 0, .int .u32 0]) 4 24 Tryz.underlying23 HI.out.1 HI.out.2.1 HI.out.2.2.1 HI.out.2.2.2 rfl (by decide) _ k (lvs (l.take k)) rfl ((HK.out.1.alloc _).alloc _) ⟨wr.heap.size + 1, 0, none⟩ 1 1 (lvs [a]) rfl rfl (by have g := new_cells (wr.alloc (.cells #[.int .u32 (a.hd : Int), .int .u64 (a.wt : Int), .int .u32 (a.lf : Int), .int .u32 (a.rt : Int)] 65)) (lvs [a]) 65; rw [World.size_alloc] at g; exact g) (lvs_one _) (by unfold maxLen; omega) (by omega) (by have := HK.out.2.size; simp; omega) ?_; intro v5 w5 hown5 hgr5 _; have H5 : Hid (w5.ownsRow w.heap.size 65 4 v5 (k + 1) (lvs (l.take (k + 1))) ∧ Below w.heap.size w w5) := ⟨by rw [HT1.out, lvs_append]; exact hown5, below_grown ((HK.out.2.alloc HK.out.2.size _).alloc (by have := HK.out.2.size; simp; omega) _) ((HK.out.1.alloc _).alloc _) hgr5 (by have := HK.out.2.size; simp; omega)⟩; clear hown5 hgr5; obtain ⟨po, pc, hv5⟩ := own_slice H5.out.1; subst hv5)
      exact ⟨⟨k + 1, po, pc, by omega, by rw [show (k : Int) + 1 = ((k + 1 : Nat) : Int) by omega], rfl, H5.out.1, H5.out.2⟩, by simp only [intOf]; omega⟩
    · obtain rfl : k = l.length := by omega
      have HK2 : Hid (wr.ownsRow w.heap.size 65 4 (.slice so l.length sc) l.length (lvs l) ∧ Below w.heap.size w wr) := ⟨by rw [List.take_length] at hO; exact hO, hB⟩
      clear hO hB HK
      go_wp2_with fail
      go_ret
      exact ⟨so, sc, rfl, HK2.out.1, HK2.out.2⟩
end Go.Proofs.YtodilocmfdeehaaGreatDoor.Hi
