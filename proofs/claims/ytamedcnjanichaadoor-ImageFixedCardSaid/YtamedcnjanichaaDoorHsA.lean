/- the reference's Words and Links: copies in new memory. (gencopy.py) -/
import Derived.Test.YtamedcnjanichaaDoorHrQ
import Derived.Test.YtamedcnjanichaaDoorHrG
import Derived.Test.YtamedcnjanichaaDoorHrY
namespace Go.Proofs.YtamedcnjanichaaDoor.Hi
open Go.RowKit Go.Extern Go.Shelf

attribute [local go_sem] Oper.semAt_some

theorem infoWs : (Tryd.prog.info? 42).map (fun i => (i.zero, i.size, i.bytes)) = some (some (.int .u32 0), 1, 4) := by kernel_rfl
theorem infoLs : (Tryd.prog.info? 61).map (fun i => (i.zero, i.size, i.bytes)) = some (some (.agg #[.int .u32 0, .int .u64 0, .int .u32 0, .int .u32 0]), 4, 24) := by kernel_rfl
theorem own_slice {w : World} {B n z : Nat} {T : TypeId} {v : Value} {xs : List Value} (h : w.ownsRow B T z v n xs) : ∃ ao cap, v = .slice ao n cap := by
  rcases h.2 with ⟨h, h'⟩ | ⟨g, cap, cur, h, _⟩
  · exact ⟨none, 0, by rw [h']; exact h⟩
  · exact ⟨_, cap, h⟩
theorem below_grown {w0 w w' : World} {base n z : Nat} {T : TypeId} {xs : List Value} {v : Value} (hb : Below base w0 w) (h : w.ownsRow base T z v n xs) (hg : w.grownBy w' v.ownBlock) (hs : base ≤ w.heap.size) : Below base w0 w' :=
  hb.trans ⟨hg.os, hg.tape, hg.output, hg.size, fun j hj => hg.block j (Nat.lt_of_lt_of_le hj hs) (fun e => by have := (h.lt j e.symm).1; omega)⟩
theorem wvs_len (l : List Nat) : (wvs l).length = l.length * 1 := by simp [wvs]
theorem lvs_len (l : List Lk) : (lvs l).length = l.length * 4 := by
  induction l with
  | nil => rfl
  | cons a r ih => simp only [lvs, List.flatMap_cons, List.length_append, List.length_cons, List.length_nil] at *; omega
theorem wvs_append (l r : List Nat) : wvs (l ++ r) = wvs l ++ wvs r := by simp [wvs]
theorem lvs_append (l r : List Lk) : lvs (l ++ r) = lvs l ++ lvs r := by simp [lvs]
theorem wvs_one (l : List Nat) : ∀ u ∈ wvs l, u.oneCell' = true := by
  intro u hu
  simp [wvs] at hu
  obtain ⟨a, _, rfl⟩ := hu
  rfl
theorem lvs_one (l : List Lk) : ∀ u ∈ lvs l, u.oneCell' = true := by
  intro u hu
  simp [lvs] at hu
  obtain ⟨a, _, rfl | rfl | rfl | rfl⟩ := hu <;> rfl
theorem new_cells (W : World) (c : List Value) (T : TypeId) : ∀ j u, c[j]? = some u → (W.alloc (.cells c.toArray T)).cell? ((⟨W.heap.size, 0, none⟩ : Addr).add j) = some u := fun j u hj => by
  have hh := heap_newW W (.cells c.toArray T)
  generalize W.alloc (.cells c.toArray T) = W' at hh
  have e : (⟨W.heap.size, 0, none⟩ : Addr).add j = ⟨W.heap.size, j, none⟩ := by
    by_cases h0 : j = 0
    · subst h0; rfl
    · simp [Addr.add, h0]
  rw [e]
  simp [World.cell?, hh, hj]
theorem ws_of_own {w : World} {B : Nat} {v : Value} {l : List Nat} (h : w.ownsRow B 42 1 v l.length (wvs l)) (hok : ∀ x ∈ l, x < 4294967296) : HasWs w v l := by
  rcases h.2 with ⟨e, h0⟩ | ⟨g, cap, cur, rfl, hg, hh, hc, _⟩
  · have : l = [] := List.eq_nil_of_length_eq_zero h0
    subst this
    exact ⟨none, 0, e, Nat.le_refl _, fun j p hj => by simp at hj⟩
  · refine ⟨_, cap, rfl, hc, fun j a hj => ⟨hok a (List.mem_of_getElem? hj), g, 0, rfl, some_lt hh, ?_⟩⟩
    have hlt := (List.getElem?_eq_some_iff.1 hj).1
    rw [Nat.zero_add]
    exact (h.cellAt j (by omega)).trans (by simp [wvs, hj])
theorem ls_of_own {w : World} {B : Nat} {v : Value} {l : List Lk} (h : w.ownsRow B 61 4 v l.length (lvs l)) (hok : ∀ x ∈ l, x.ok) : HasLs w v l := by
  rcases h.2 with ⟨e, h0⟩ | ⟨g, cap, cur, rfl, hg, hh, hc, _⟩
  · have : l = [] := List.eq_nil_of_length_eq_zero h0
    subst this
    exact ⟨none, 0, e, Nat.le_refl _, fun j p hj => by simp at hj⟩
  · refine ⟨_, cap, rfl, hc, fun j a hj => ⟨hok a (List.mem_of_getElem? hj), g, 0, rfl, some_lt hh, ?_⟩⟩
    have hlt := (List.getElem?_eq_some_iff.1 hj).1
    obtain ⟨g0, g1, g2, g3⟩ := lvs_get l j a hj
    simp only [Nat.zero_add]
    exact ⟨(h.cellAt (j * 4) (by omega)).trans g0, (h.cellAt (j * 4 + 1) (by omega)).trans g1, (h.cellAt (j * 4 + 2) (by omega)).trans g2, (h.cellAt (j * 4 + 3) (by omega)).trans g3⟩
theorem HasWs.ok {w : World} {lv : Value} {L : List Nat} (h : HasWs w lv L) : ∀ x ∈ L, x < 4294967296 := by
  intro x hx
  obtain ⟨_, _, _, _, hc⟩ := h
  obtain ⟨j, hj, e⟩ := List.mem_iff_getElem.1 hx
  exact (hc j x (by rw [List.getElem?_eq_getElem hj, e])).1

end Go.Proofs.YtamedcnjanichaaDoor.Hi
