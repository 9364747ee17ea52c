/- rows of standing links of one's own; hier.links. -/
import Derived.Test.YtodilocmfdeehaaGreatDoorHrF
import Derived.Maps.AppendAt
import Derived.Maps.OwnIn
namespace Go.Proofs.YtodilocmfdeehaaGreatDoor.Hi
open Go.RowKit Go.Extern Go.Shelf

attribute [local go_sem] Oper.semAt_some

theorem infoSt : (Tryz.prog.info? 152).map (fun i => (i.zero, i.size, i.bytes)) = some (some (.agg #[.int .u32 0, .int .u64 0, .int .u32 0, .int .u32 0, .int .u32 0, .bool false]), 6, 32) := by kernel_rfl
/-- the cells of standing links. -/
def flatS (l : List Sd) : List Value := l.flatMap fun s => (sixC s).toList
theorem flatS_len (l : List Sd) : (flatS l).length = l.length * 6 := by
  induction l with
  | nil => rfl
  | cons a r ih => simp only [flatS, List.flatMap_cons, List.length_append, List.length_cons] at *; rw [ih]; simp [sixC]; omega
theorem flatS_append (l r : List Sd) : flatS (l ++ r) = flatS l ++ flatS r := by simp [flatS]
theorem flatS_one (s : Sd) : flatS [s] = (sixC s).toList := by simp [flatS]
theorem flatS_get : ∀ (l : List Sd) (i : Nat) (a : Sd), l[i]? = some a → ∀ c, c < 6 → (flatS l)[i * 6 + c]? = (sixC a)[c]?
  | [], i, a, h, _, _ => by simp at h
  | b :: r, 0, a, h, c, hc => by
    simp at h
    subst h
    have e : flatS (b :: r) = (sixC b).toList ++ flatS r := by simp [flatS]
    rw [e, List.getElem?_append_left (by simp [sixC]; omega)]
    simp
  | b :: r, i + 1, a, h, c, hc => by
    have ih := flatS_get r i a (by simpa using h) c hc
    have e : flatS (b :: r) = (sixC b).toList ++ flatS r := by simp [flatS]
    have hl : (sixC b).toList.length = 6 := by simp [sixC]
    rw [e, List.getElem?_append_right (by rw [hl]; omega), hl, show (i + 1) * 6 + c - 6 = i * 6 + c by omega]
    exact ih
theorem own_keep {w w' : World} {B n : Nat} {v : Value} {e : TypeId} {z : Nat} {xs : List Value} (h : w.ownsRow B e z v n xs) (hk : ∀ k cur, v.ownBlock = some k → w.heap[k]? = some (.cells cur e) → w'.heap[k]? = some (.cells cur e)) : w'.ownsRow B e z v n xs := by
  obtain ⟨h1, h2⟩ := h
  refine ⟨h1, ?_⟩
  rcases h2 with h2 | ⟨g, cap, cur, e, hb, hh, r⟩
  · exact Or.inl h2
  · subst e
    exact Or.inr ⟨g, cap, cur, rfl, hb, hk g cur rfl hh, r⟩
/-- a row of one's own, read. -/
theorem ss_of_own {w : World} {B n : Nat} {v : Value} {L : List Sd} (h : w.ownsRow B 152 6 v n (flatS L)) (hok : ∀ s ∈ L, s.ok) : HasSs w v L ∧ L.length = n := by
  obtain ⟨h1, h2⟩ := h
  rw [flatS_len] at h1
  obtain rfl : L.length = n := by omega
  refine ⟨?_, rfl⟩
  rcases h2 with ⟨rfl, h2⟩ | ⟨g, cap, cur, rfl, hb, hh, hc1, hc2, hsz, htk⟩
  · have : L = [] := List.eq_nil_of_length_eq_zero h2
    subst this
    exact ⟨none, 0, rfl, Nat.le_refl _, fun j s hj => by simp at hj⟩
  · refine ⟨_, cap, rfl, hc1, fun j s hj => ⟨hok s (List.mem_of_getElem? hj), g, 0, rfl, some_lt hh, ?_⟩⟩
    have hj2 : j < L.length := (List.getElem?_eq_some_iff.1 hj).1
    have key : ∀ c, c < 6 → w.cell? ⟨g, 0 + j * 6 + c, none⟩ = (sixC s)[c]? := fun c hc => by
      have g1 := flatS_get L j s hj c hc
      rw [← htk, List.getElem?_take, if_pos (by omega)] at g1
      simp only [World.cell?, hh]
      rw [← Array.getElem?_toList, Nat.zero_add, g1]
      simp
    exact ⟨key 0 (by omega), key 1 (by omega), key 2 (by omega), key 3 (by omega), key 4 (by omega), key 5 (by omega)⟩
theorem make_ss (n : Nat) (hn : n ≤ 1048576) (w : World) : ∃ cs : Array Value, cs.size = n * 6 ∧ (Instr.makeSlice 147 (.int .i64 0) (.int .i64 (n : Int))).run Tryz.prog w = .ok (.slice (some ⟨w.heap.size, 0, none⟩) 0 n) (w.alloc (.cells cs 152)) := by
  obtain ⟨i, hi, hzz⟩ := Option.map_eq_some_iff.1 infoSt
  simp only [Prod.mk.injEq] at hzz
  obtain ⟨hz, hs, hb⟩ := hzz
  refine ⟨madeCells #[.int .u32 0, .int .u64 0, .int .u32 0, .int .u32 0, .int .u32 0, .bool false] (n * 6), by simp [size_madeCells], ?_⟩
  have hr := run_make (P := Tryz.prog) w 147 152 i _ Tryz.underlying147 hi hz .i64 .i64 0 n (by omega) (by omega) (by rw [hb]; omega) (by omega)
  simp only [Int.toNat_natCast, hs] at hr
  rw [hr]
  rfl
theorem own_made (w : World) (n : Nat) (cs : Array Value) (h : cs.size = n * 6) (hn : n ≤ 1048576) : (w.alloc (.cells cs 152)).ownsRow w.heap.size 152 6 (.slice (some ⟨w.heap.size, 0, none⟩) 0 n) 0 (flatS []) := by
  refine ⟨by simp [flatS], Or.inr ⟨_, n, cs, rfl, Nat.le_refl _, heap_newW _ _, Nat.zero_le _, by unfold maxLen; omega, h, by simp [flatS]⟩⟩
def hvl (v : HV) (h : Hr) : Value := .agg #[.slice v.no h.node.length v.nc, .slice v.uo h.upF.length v.uc, .slice v.ul h.up.length v.ulc, .slice v.wo h.dnF.length v.wc, .slice v.dl h.dn.length v.dlc]
set_option maxRecDepth 100000 in
set_option maxHeartbeats 2000000 in
theorem links_calls (v : HV) (h : Hr) (w : World) : Calls Tryz.prog 85 #[hvl v h] w fun e w' => e = .returned (.func (.func 103) #[] #[.pointer (some ⟨w.heap.size, 0, none⟩)]) ∧ w' = w.alloc (.cells (cellsH v h) 25) := by
  unfold hvl cellsH
  go_enter Tryz.func85, Tryz.ntmps85
  go_wp2
  go_ret
  exact ⟨rfl, rfl⟩
/-- all links are within their ranges. -/
def Hr.ok (h : Hr) : Prop := (∀ x ∈ h.up, x.ok) ∧ (∀ x ∈ h.dn, x.ok)
theorem HasLs.ok {w : World} {lv : Value} {L : List Lk} (h : HasLs w lv L) : ∀ x ∈ L, x.ok := by
  obtain ⟨_, _, _, _, hc⟩ := h
  intro x hx
  obtain ⟨i, hi⟩ := List.mem_iff_getElem?.1 hx
  exact (hc i x hi).1
theorem stds_ok {h : Hr} (hu : FOk h.upF h.up.length) (hd : FOk h.dnF h.dn.length) (hn : h.upF.length ≤ 65537) (hn2 : h.dnF.length ≤ 65537) (h1 : ∀ x ∈ h.up, x.ok) (h2 : ∀ x ∈ h.dn, x.ok) : ∀ s ∈ stds h, s.ok := by
  intro s hs
  rw [stds, List.mem_append, List.mem_map, List.mem_map] at hs
  rcases hs with ⟨x, hx, rfl⟩ | ⟨x, hx, rfl⟩
  · obtain ⟨i, hi⟩ := List.mem_iff_getElem?.1 hx
    obtain ⟨g1, g2, _⟩ := rkL_get hu hi
    exact ⟨h1 _ (List.mem_of_getElem? g1), by show x.1 < _; omega⟩
  · obtain ⟨i, hi⟩ := List.mem_iff_getElem?.1 hx
    obtain ⟨g1, g2, _⟩ := rkL_get hd hi
    exact ⟨h2 _ (List.mem_of_getElem? g1), by show x.1 < _; omega⟩
theorem stds_len {h : Hr} (hu : FOk h.upF h.up.length) (hd : FOk h.dnF h.dn.length) : (stds h).length = h.up.length + h.dn.length := by
  rw [stds, List.length_append, List.length_map, List.length_map, rkL_len hu, rkL_len hd]
theorem numd_map (k : Nat) : ∀ (l : List Sd), (numd k l).map Prod.snd = l := by
  intro l
  induction l generalizing k with
  | nil => rfl
  | cons a r ih => simp [numd, ih]
end Go.Proofs.YtodilocmfdeehaaGreatDoor.Hi
