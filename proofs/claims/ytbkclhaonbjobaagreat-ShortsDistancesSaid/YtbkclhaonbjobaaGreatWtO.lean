/- newSearch, walked. (genwto.py) -/
import Derived.Test.YtbkclhaonbjobaaGreatWtW
import Derived.Test.YtbkclhaonbjobaaGreatWtL
import Derived.Test.YtbkclhaonbjobaaGreatInts
import Derived.Sort.Grow
namespace Go.Proofs.YtbkclhaonbjobaaGreat.Wt
open Go Go.RowKit Go.Extern Go.Sort

attribute [local go_sem] Oper.semAt_some

theorem getBang {zs : List Int} {i : Nat} {x : Int} (h : zs[i]? = some x) : zs.toArray[i]! = x := by
  obtain ⟨hl, hx⟩ := List.getElem?_eq_some_iff.1 h
  rw [getElem!_pos _ i (by simpa using hl)]
  simpa using hx
theorem compact_rise {zs : List Int} (h : zs.Pairwise (· ≤ ·)) : (Lib.compact zs).Pairwise (· < ·) := by
  unfold Lib.compact Lib.compactUpTo
  rw [List.pairwise_map]
  have hr : ((List.range zs.length).filter (Lib.keeps zs.toArray)).Pairwise (· < ·) := List.Pairwise.sublist List.filter_sublist List.pairwise_lt_range
  refine List.Pairwise.imp_of_mem ?_ hr
  intro i j hi hj hij
  obtain ⟨j1, j2⟩ := List.mem_filter.1 hj
  have hjl := List.mem_range.1 j1
  have hp := List.pairwise_iff_getElem.1 h
  have e1 : zs.toArray[i]! = zs[i]'(by omega) := getBang (List.getElem?_eq_getElem (by omega))
  have e2 : zs.toArray[j]! = zs[j]'hjl := getBang (List.getElem?_eq_getElem hjl)
  have e3 : zs.toArray[j - 1]! = zs[j - 1]'(by omega) := getBang (List.getElem?_eq_getElem (by omega))
  have hk : zs.toArray[j]! ≠ zs.toArray[j - 1]! := by
    unfold Lib.keeps at j2
    rcases of_decide_eq_true j2 with e | e
    · omega
    · exact e
  rw [e1, e2]
  rw [e2, e3] at hk
  have a1 : zs[j - 1]'(by omega) ≤ zs[j]'hjl := hp (j - 1) j (by omega) hjl (by omega)
  have a2 : zs[i]'(by omega) ≤ zs[j - 1]'(by omega) := by
    rcases Nat.lt_or_ge i (j - 1) with hlt | hge
    · exact hp i (j - 1) (by omega) (by omega) hlt
    · have : i = j - 1 := by omega
      subst this
      exact Int.le_refl _
  omega
theorem compact_mem {zs : List Int} (x : Int) : x ∈ Lib.compact zs ↔ x ∈ zs := by
  unfold Lib.compact Lib.compactUpTo
  rw [List.mem_map]
  constructor
  · rintro ⟨j, hj, rfl⟩
    have hjl := List.mem_range.1 (List.mem_filter.1 hj).1
    rw [getBang (List.getElem?_eq_getElem hjl)]
    exact List.getElem_mem _
  · intro hx
    have hex : ∀ j : Nat, zs[j]? = some x → ∃ a, a ∈ (List.range zs.length).filter (Lib.keeps zs.toArray) ∧ zs.toArray[a]! = x := by
      intro j
      induction j using Nat.strongRecOn with
      | _ j ih =>
        intro hj
        have hjl := (List.getElem?_eq_some_iff.1 hj).1
        by_cases hk : Lib.keeps zs.toArray j = true
        · exact ⟨j, List.mem_filter.2 ⟨List.mem_range.2 hjl, hk⟩, getBang hj⟩
        · unfold Lib.keeps at hk
          rw [decide_eq_true_eq] at hk
          have h0 : j ≠ 0 := fun e => hk (Or.inl e)
          have h1 : zs.toArray[j]! = zs.toArray[j - 1]! := Classical.byContradiction fun e => hk (Or.inr e)
          refine ih (j - 1) (by omega) ?_
          obtain ⟨y, hy⟩ : ∃ y, zs[j - 1]? = some y := ⟨_, List.getElem?_eq_getElem (by omega)⟩
          rw [getBang hj, getBang hy] at h1
          rw [hy, h1]
    obtain ⟨j, hj⟩ := List.getElem?_of_mem hx
    exact hex j hj
theorem sorted_le (zs : List Int) : (zs.mergeSort fun x y => decide (x ≤ y)).Pairwise (· ≤ ·) := by
  have h := List.pairwise_mergeSort (le := fun (x y : Int) => decide (x ≤ y)) (fun a b c h1 h2 => by simp at *; omega) (fun a b => by simp; omega) zs
  exact h.imp fun h => by simpa using h
/-- the goals, each once, rising. -/
def onceG (gs : List Int) : List Int := Lib.compact (gs.mergeSort fun x y => decide (x ≤ y))
theorem onceG_rise (gs : List Int) : (onceG gs).Pairwise (· < ·) := compact_rise (sorted_le gs)
theorem onceG_mem (gs : List Int) (x : Int) : x ∈ onceG gs ↔ x ∈ gs := (compact_mem x).trans (List.mergeSort_perm gs _).mem_iff
theorem onceG_nodup (gs : List Int) : (onceG gs).Nodup := (onceG_rise gs).imp fun h => by omega
theorem onceG_len (gs : List Int) : (onceG gs).length ≤ gs.length := by
  have h1 := Lib.compact_length_le (gs.mergeSort fun x y => decide (x ≤ y))
  rw [List.length_mergeSort] at h1
  exact h1
theorem onceG_nil : onceG [] = [] := List.eq_nil_of_length_eq_zero (by have := onceG_len []; simpa using this)
theorem below_putRow {B : Nat} {w W : World} (h : Below B w W) {blk : Nat} (hb : B ≤ blk) (n off : Nat) (d : Array Int) : Below B w (putRow (Value.int .i64) (Sort.ahead W n) blk off d) :=
  ⟨h.os, h.tape, h.output, by simpa [putRow, mapBlock, Sort.ahead] using h.size, fun k hk => by
    have e : (putRow (Value.int .i64) (Sort.ahead W n) blk off d).heap[k]? = W.heap[k]? := by
      simp only [putRow, mapBlock, Sort.ahead, Array.getElem?_modify]
      rw [if_neg (by omega)]
    rw [e]
    exact h.block k hk⟩
theorem below_grow {B : Nat} {w W : World} (h : Below B w W) (hB : B ≤ W.heap.size) (os : Array Obj) : Below B w (grow W os) :=
  ⟨h.os, h.tape, h.output, by have := h.size; simp [grow]; omega, fun k hk => by rw [heap_grow_old _ _ (by omega)]; exact h.block k hk⟩
theorem toBang {d : List Int} {j : Nat} (hj : j < d.length) : d.toArray[j]! = d.getD j 0 := by
  rw [getBang (List.getElem?_eq_getElem hj), List.getD_eq_getElem?_getD, List.getElem?_eq_getElem hj]; rfl
/-- how goals are looked for, in all later worlds. -/
def Finds (wB : World) (c2 : Value) (G : List Int) : Prop := ∀ wx, Below wB.heap.size wB wx → ∀ v : Nat, Calls Tryz.prog 111 #[c2, .int .i64 (v : Int)] wx fun e w' => ∃ p, e = .returned (.tuple #[.int .i64 p, .bool (G.contains (v : Int))]) ∧ Below wx.heap.size wx w'
theorem finds_none (wB : World) (a : Option Addr) (c : Nat) : Finds wB (.slice a 0 c) [] := fun wx _ v => (_root_.Go.Proofs.Tryz.slices_BinarySearch_int_empty a c (v : Int) wx).mono (by
  rintro e w' ⟨rfl, rfl⟩
  exact ⟨0, rfl, Below.refl _ _⟩)
theorem finds_some {wB : World} {g c : Nat} {G : List Int} (hr : G.Pairwise (· < ·)) (hl : G.length ≤ 1000000) (hg : g < wB.heap.size) (hc : ∀ j, j < G.length → wB.cell? ⟨g, 0 + j, none⟩ = some (.int .i64 (G.getD j 0))) : Finds wB (.slice (some ⟨g, 0, none⟩) G.length c) G := fun wx hx v =>
  (_root_.Go.Proofs.Tryz.slices_BinarySearch_int g 0 G.length c G (v : Int) wx (Nat.le_refl _) (by omega) (fun j hj => (hx.cell (p := ⟨g, 0 + j, none⟩) hg).trans (hc j hj)) (by rw [List.take_length]; exact hr.imp fun h => by omega)).mono (by
    rintro e w' ⟨rfl, q, rfl⟩
    rw [List.take_length]
    exact ⟨_, rfl, below_drewW (Below.refl _ _) _⟩)
/-- what newSearch leaves. -/
def NewA (ov : Value) (skip : Int) (gs : List Int) (w : World) (e : Ending) (w' : World) : Prop := ∃ wB sb mb c2, e = .returned (.pointer (some ⟨sb, 0, none⟩)) ∧ Below w.heap.size w wB ∧ WB wB w' sb mb 0 ov (.int .i64 skip) c2 (.int .i64 (((onceG gs).length : Nat) : Int)) (.slice none 0 0) (fun _ => none) [] ∧ Finds wB c2 (onceG gs)
theorem new_made (wB : World) (ov c1 c2 c3 : Value) : WB wB ((wB.alloc (.map #[] 0)).alloc (.cells #[ov, c1, c2, c3, .map (some wB.heap.size), .slice none 0 0] 177)) (wB.heap.size + 1) wB.heap.size 0 ov c1 c2 c3 (.slice none 0 0) (fun _ => none) [] := by
  have h1 := LMap.new wB
  have hz : (wB.alloc (.map #[] 0)).heap.size = wB.heap.size + 1 := by simp
  refine ⟨⟨⟨⟨?_, World.ownsRow_nil _ _ _ _, by simp [Value.ownBlock]⟩, fun k _ kn => by simp at kn⟩, h1.up ((Below.refl _ _).alloc (Nat.le_refl _) _)⟩, ((Below.refl _ wB).alloc (Nat.le_refl _) _).alloc (by rw [hz]; omega) _, by omega, Nat.le_refl _, fun k hk => by simp [Value.ownBlock] at hk⟩
  have := heap_new (wB.alloc (.map #[] 0)) (.cells #[ov, c1, c2, c3, .map (some wB.heap.size), .slice none 0 0] 177)
  rw [hz] at this
  exact this
set_option maxRecDepth 100000 in
set_option maxHeartbeats 4000000 in
theorem wnew_calls (oa : Addr) (skip : Int) (go : Option Addr) (gc : Nat) (gs : List Int) (w : World) (hg : HasInts w (.slice go gs.length gc) gs) (hl : gs.length ≤ 1000000) :
    Calls Tryz.prog 89 #[.pointer (some oa), .int .i64 skip, .slice go gs.length gc] w fun e w' => NewA (.pointer (some oa)) skip gs w e w' := by
  rcases Nat.eq_zero_or_pos gs.length with h0 | h0
  · obtain rfl : gs = [] := List.eq_nil_of_length_eq_zero h0
    have HCL : Hid (Calls Tryz.prog 99 #[.slice go 0 gc] w fun e w' => ∃ po pc, e = .returned (.slice po 0 pc) ∧ Below w.heap.size w w') := by
      cases go with
      | none =>
        refine (_root_.Go.Proofs.Tryz.slices_Clone_int_nil 0 gc w).mono ?_
        rintro e w' ⟨rfl, rfl⟩
        exact ⟨none, 0, rfl, Below.refl _ _⟩
      | some a =>
        refine (_root_.Go.Proofs.Tryz.slices_Clone_int_zero a gc w).mono ?_
        rintro e w' ⟨v', rfl, ho, _, hb⟩
        rcases ho.2 with ⟨e, _⟩ | ⟨g, cap, cur, e, _⟩
        · rw [e]; exact ⟨none, 0, rfl, hb⟩
        · rw [e]; exact ⟨_, cap, rfl, hb⟩
    have HSO : Hid (type_of% @_root_.Go.Proofs.Tryz.slices_Sort_int_none) := @_root_.Go.Proofs.Tryz.slices_Sort_int_none
    have HCO : Hid (type_of% @_root_.Go.Proofs.Tryz.slices_Compact_int_empty) := @_root_.Go.Proofs.Tryz.slices_Compact_int_empty
    have hmm := @run_makeMap Tryz.prog
    clear hg hl h0
    go_enter Tryz.func89, Tryz.ntmps89
    go_wp2_with fail
    refine HCL.out.mono ?_
    rintro e y1 ⟨po, pc, rfl, hy1⟩
    have HY : Hid (Below w.heap.size w y1) := hy1
    clear hy1 HCL
    go_wp2_with fail
    refine (HSO.out po pc y1).mono ?_
    rintro e y2 ⟨rfl, rfl⟩
    go_wp2_with fail
    refine (HCO.out po pc y2).mono ?_
    rintro e y3 ⟨rfl, rfl⟩
    have HZ : Hid (type_of% (new_made y3 (.pointer (some oa)) (.int .i64 skip) (.slice po 0 pc) (.int .i64 0))) := new_made y3 (.pointer (some oa)) (.int .i64 skip) (.slice po 0 pc) (.int .i64 0)
    clear HSO HCO
    go_wp2
    go_ret
    exact ⟨y3, y3.heap.size + 1, y3.heap.size, .slice po 0 pc, rfl, HY.out, by rw [onceG_nil]; exact HZ.out, by rw [onceG_nil]; exact finds_none y3 po pc⟩
  · obtain ⟨n, hn⟩ : ∃ n, gs.length = n := ⟨_, rfl⟩
    obtain ⟨x0, hx0⟩ : ∃ x, gs[0]? = some x := ⟨_, List.getElem?_eq_getElem h0⟩
    obtain ⟨b, off, rfl, hbl, _⟩ := hg.at hx0
    have hcl : ∀ j, j < gs.length → w.cell? ⟨b, off + j, none⟩ = some (.int .i64 (gs.getD j 0)) := fun j hj => by
      obtain ⟨b', off', e, _, h1⟩ := hg.at (List.getElem?_eq_getElem hj)
      injection e with e
      injection e with e1 e2
      subst e1
      subst e2
      rw [h1, List.getD_eq_getElem?_getD, List.getElem?_eq_getElem hj]
      rfl
    have HCL : Hid (Calls Tryz.prog 99 #[.slice (some ⟨b, off, none⟩) gs.length gc] w fun e w' => ∃ g pc, e = .returned (.slice (some ⟨g, 0, none⟩) gs.length pc) ∧ w.heap.size ≤ g ∧ g < w'.heap.size ∧ gs.length ≤ pc ∧ Holds (Value.int .i64) w' g 0 gs.toArray ∧ Below w.heap.size w w') := by
      refine (_root_.Go.Proofs.Tryz.slices_Clone_int b off gs.length gc gs w (Nat.le_refl _) (by omega) hcl).mono ?_
      rintro e w' ⟨v', rfl, ho, _, hb⟩
      rw [List.take_length] at ho
      rcases ho.2 with ⟨_, e⟩ | ⟨g, cap, cur, rfl, hgb, hh, hc, _⟩
      · omega
      · refine ⟨g, cap, rfl, hgb, lt_of_get hh, hc, fun j hj => ?_, hb⟩
        have hj' : j < gs.length := by simpa using hj
        refine ⟨?_, by simp [World.frozen?, hh]⟩
        have h1 := ho.cellAt j (by omega)
        rw [Nat.zero_add]
        rw [h1, List.getElem?_map, List.getElem?_eq_getElem hj', getBang (List.getElem?_eq_getElem hj')]
        rfl
    have hmm := @run_makeMap Tryz.prog
    have HL : Hid (gs.length ≤ 1000000) := hl
    clear hg hl hx0 hcl hbl h0 hn
    obtain ⟨ss, hss⟩ : ∃ ss, (gs.mergeSort fun x y => decide (x ≤ y)) = ss := ⟨_, rfl⟩
    have HSS : Hid (ss.length = gs.length ∧ Lib.compact ss = onceG gs) := ⟨by rw [← hss, List.length_mergeSort], by rw [← hss]; rfl⟩
    have HSO : Hid (∀ (g cap : Nat) (wx : World), Holds (Value.int .i64) wx g 0 gs.toArray → g < wx.heap.size → w.heap.size ≤ g → Below w.heap.size w wx → Calls Tryz.prog 100 #[.slice (some ⟨g, 0, none⟩) gs.length cap] wx fun e w' => e = .returned (.tuple #[]) ∧ Holds (Value.int .i64) w' g 0 ss.toArray ∧ g < w'.heap.size ∧ Below w.heap.size w w') := fun g cap wx hh hg hb hbl => by
      refine (_root_.Go.Proofs.Tryz.slices_Sort_int g 0 cap gs wx hh hg (by have := HL.out; omega)).mono ?_
      rintro e w' ⟨rfl, q, os, rfl⟩
      rw [hss]
      have hs1 : ss.toArray.size = gs.toArray.size := by simp [HSS.out.1]
      have hsz : (putRow (Value.int .i64) (Sort.ahead wx q) g 0 ss.toArray).heap.size = wx.heap.size := by simp [putRow, mapBlock, Sort.ahead]
      exact ⟨rfl, holds_grow _ _ _ _ _ _ (by rw [hsz]; exact hg) (holds_putRow _ _ _ _ _ _ (holds_ahead _ _ _ _ _ _ hh) hs1), by simp [grow, hsz]; omega, below_grow (below_putRow hbl hb _ _ _) (by rw [hsz]; have := hbl.size; omega) _⟩
    have HCO : Hid (∀ (g cap : Nat) (wx : World), Holds (Value.int .i64) wx g 0 ss.toArray → g < wx.heap.size → w.heap.size ≤ g → gs.length ≤ cap → Below w.heap.size w wx → Calls Tryz.prog 101 #[.slice (some ⟨g, 0, none⟩) gs.length cap] wx fun e w' => e = .returned (.slice (some ⟨g, 0, none⟩) (onceG gs).length cap) ∧ Finds w' (.slice (some ⟨g, 0, none⟩) (onceG gs).length cap) (onceG gs) ∧ Below w.heap.size w w') := fun g cap wx hh hg hb hcap hbl => by
      have hc := _root_.Go.Proofs.Tryz.slices_Compact_int g 0 cap ss wx hh (by have := HL.out; have := HSS.out.1; omega) (by have := HSS.out.1; omega)
      rw [HSS.out.1, HSS.out.2] at hc
      refine hc.mono ?_
      rintro e w' ⟨rfl, q, rfl⟩
      have hle := onceG_len gs
      have hsz : (putRow (Value.int .i64) (Sort.ahead wx q) g 0 (onceG gs ++ List.replicate (gs.length - (onceG gs).length) 0).toArray).heap.size = wx.heap.size := by simp [putRow, mapBlock, Sort.ahead]
      have hs1 : (onceG gs ++ List.replicate (gs.length - (onceG gs).length) 0).toArray.size = ss.toArray.size := by simp [HSS.out.1]; omega
      refine ⟨rfl, finds_some (onceG_rise gs) (by have := HL.out; omega) (by rw [hsz]; exact hg) (fun j hj => ?_), below_putRow hbl hb _ _ _⟩
      have h1 := (holds_putRow (Value.int .i64) (Sort.ahead wx q) g 0 ss.toArray (onceG gs ++ List.replicate (gs.length - (onceG gs).length) 0).toArray (holds_ahead _ _ _ _ _ _ hh) hs1 j (by simp; omega)).1
      rw [h1, toBang (by simp; omega), List.getD_eq_getElem?_getD, List.getElem?_append_left hj, ← List.getD_eq_getElem?_getD]
    obtain ⟨n, hn⟩ : ∃ n, gs.length = n := ⟨_, rfl⟩
    rw [hn] at HCL HSO HCO ⊢
    clear hss hn
    go_enter Tryz.func89, Tryz.ntmps89
    go_wp2_with fail
    refine HCL.out.mono ?_
    rintro e y1 ⟨g, pc, rfl, hg1, hg2, hpc, hh1, hy1⟩
    have H1 : Hid (Holds (Value.int .i64) y1 g 0 gs.toArray ∧ g < y1.heap.size ∧ w.heap.size ≤ g ∧ Below w.heap.size w y1 ∧ n ≤ pc) := ⟨hh1, hg2, hg1, hy1, hpc⟩
    clear hg1 hg2 hpc hh1 hy1 HCL
    go_wp2_with fail
    refine (HSO.out g pc y1 H1.out.1 H1.out.2.1 H1.out.2.2.1 H1.out.2.2.2.1).mono ?_
    rintro e y2 ⟨rfl, hh2, hg2, hy2⟩
    have H2 : Hid (Holds (Value.int .i64) y2 g 0 ss.toArray ∧ g < y2.heap.size ∧ Below w.heap.size w y2) := ⟨hh2, hg2, hy2⟩
    clear hh2 hg2 hy2
    go_wp2_with fail
    refine (HCO.out g pc y2 H2.out.1 H2.out.2.1 H1.out.2.2.1 H1.out.2.2.2.2 H2.out.2.2).mono ?_
    rintro e y3 ⟨rfl, hf, hy3⟩
    have HZ : Hid (Below w.heap.size w y3 ∧ WB y3 ((y3.alloc (.map #[] 0)).alloc (.cells #[.pointer (some oa), .int .i64 skip, .slice (some ⟨g, 0, none⟩) (onceG gs).length pc, .int .i64 (((onceG gs).length : Nat) : Int), .map (some y3.heap.size), .slice none 0 0] 177)) (y3.heap.size + 1) y3.heap.size 0 (.pointer (some oa)) (.int .i64 skip) (.slice (some ⟨g, 0, none⟩) (onceG gs).length pc) (.int .i64 (((onceG gs).length : Nat) : Int)) (.slice none 0 0) (fun _ => none) [] ∧ Finds y3 (.slice (some ⟨g, 0, none⟩) (onceG gs).length pc) (onceG gs)) := ⟨hy3, new_made y3 _ _ _ _, hf⟩
    clear hf hy3 HSO HCO
    go_wp2
    go_ret
    exact ⟨y3, _, _, _, rfl, HZ.out⟩
end Go.Proofs.YtbkclhaonbjobaaGreat.Wt
