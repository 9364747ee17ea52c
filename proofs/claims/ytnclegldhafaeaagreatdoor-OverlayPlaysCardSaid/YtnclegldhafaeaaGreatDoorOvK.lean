/- slices.Insert of one half into a row of one's own that is full, ahead of its end; and the three together. -/
import Derived.Test.YtnclegldhafaeaaGreatDoorOvJ
namespace Go.Proofs.YtnclegldhafaeaaGreatDoor
open Go.RowKit Go.Extern Go.Sort

attribute [local go_sem] Oper.semAt_some

theorem infoH3' : (Tryz.prog.info? 71).map (fun i => (i.zero.map (fun z => z.cells.size), i.size, i.bytes)) = some (some 3, 3, 24) := by kernel_rfl
theorem infoH3 : ∃ i z, Tryz.prog.info? 71 = some i ∧ i.zero = some z ∧ z.cells.size = 3 ∧ i.size = 3 ∧ i.bytes = 24 := by
  have h := infoH3'
  cases hq : Tryz.prog.info? 71 with
  | none => rw [hq] at h; simp at h
  | some i =>
    rw [hq] at h
    cases hz : i.zero with
    | none => simp [hz] at h
    | some z => simp [hz] at h; exact ⟨i, z, rfl, hz, h.1, h.2.1, h.2.2⟩
theorem setRow_size (W : World) (x : Nat) (y : Array Value) : (W.setRow x y).heap.size = W.heap.size := by simp [World.setRow]
theorem zeroCells_size (z : Array Value) (k : Nat) : (Builtin.zeroCells z k).size = k * z.size := by
  unfold Builtin.zeroCells
  simp
set_option maxRecDepth 100000 in
set_option maxHeartbeats 600000 in
theorem insert_grow (B g c n i : Nat) (cur : Array Value) (l : List H3) (h : H3) (vb : Nat) (w : World) (hn : l.length = n) (hi : i < n) (hfull : c < n + 1) (hnc : n ≤ c) (hcm : n ≤ 262144) (hg : w.heap[g]? = some (.cells cur 71 (0, 0))) (hsz : cur.size = c * 3) (htk : cur.toList.take (n * 3) = flatH l) (hB : B ≤ w.heap.size)
    (hv : w.heap[vb]? = some (.cells (hC h).toArray 71 (0, 0))) :
    Calls Tryz.prog 61 #[.slice (some ⟨g, 0, none⟩) n c, .int .i64 (i : Int), .slice (some ⟨vb, 0, none⟩) 1 1] w fun e w' => ∃ v', e = .returned v' ∧ w'.ownsRow B 71 3 v' (n + 1) (flatH (insH l i h)) ∧ w.grownBy w' none := by
  have hlen : cur.toList.length = c * 3 := by simpa using hsz
  have hdl : (flatH (l.drop i)).length = (n - i) * 3 := by rw [flatH_len, List.length_drop, hn]
  have htl : (flatH (l.take i)).length = i * 3 := by rw [flatH_len, List.length_take, hn, Nat.min_eq_left (by omega)]
  have hglt : g < w.heap.size := (Array.getElem?_eq_some_iff.1 hg).1
  have hvlt : vb < w.heap.size := (Array.getElem?_eq_some_iff.1 hv).1
  obtain ⟨ti, z, hti, hz, hzs, his, hib⟩ := infoH3
  obtain ⟨C, hC0⟩ : ∃ C, C = grownCap w (n + 1) c 71 := ⟨_, rfl⟩
  have hC1 : n + 1 ≤ C := hC0 ▸ grownCap_ge w (n + 1) c 71
  have hC2 : C ≤ maxLen := hC0 ▸ grownCap_le_maxLen w (n + 1) c 71 (by unfold maxLen; omega)
  obtain ⟨Z, hZ⟩ : ∃ Z, Z = (flatH (l.take i)).toArray ++ Builtin.zeroCells z.cells (n + 1 - i) ++ Builtin.zeroCells z.cells (C - (n + 1)) := ⟨_, rfl⟩
  have hZl : Z.toList.length = C * 3 := by
    rw [hZ]
    simp only [Array.length_toList, Array.size_append, zeroCells_size, hzs, List.size_toArray, htl]
    omega
  have hZ1 : Z.toList.take (i * 3) = flatH (l.take i) := by
    rw [hZ]
    simp only [Array.toList_append, List.append_assoc]
    exact List.take_left' htl
  obtain ⟨Wz, hWz⟩ : ∃ Wz, Wz = w.drew.alloc (.cells Z 71) := ⟨_, rfl⟩
  obtain ⟨q, hq⟩ : ∃ q, q = w.heap.size := ⟨_, rfl⟩
  have hap : ∀ ty, (Builtin.append_ #[49, 3] ty #[.slice (some ⟨g, 0, none⟩) i c, .int .i64 ((n : Int) + 1 - (i : Int))]).run Tryz.prog w = .ok (.slice (some ⟨q, 0, none⟩) (n + 1) C) Wz := fun ty => by
    have h := run_append_zeros_grow w 49 3 ty 71 ti z .i64 .i64 Tryz.underlying49 Tryz.underlying3 hti hz ⟨g, 0, none⟩ (flatH (l.take i)) i c (n + 1 - i) (by rw [htl, his])
      (fun j v hj => by
        have hjl := (List.getElem?_eq_some_iff.1 hj).1
        rw [htl] at hjl
        rw [← flatH_take, List.getElem?_take, if_pos (by omega), ← htk, List.getElem?_take, if_pos (by omega)] at hj
        rw [Addr.add_lit, Nat.zero_add]
        simpa [World.cell?, hg] using hj) (by omega) (by omega) (by omega) (by omega) (by rw [hib]; omega)
    rw [show i + (n + 1 - i) = n + 1 by omega, ← hC0, ← hZ, ← hWz, ← hq, show ((n + 1 - i : Nat) : Int) = (n : Int) + 1 - (i : Int) by omega] at h
    exact h
  have hgz : Wz.heap[g]? = some (.cells cur 71 (0, 0)) := by rw [hWz]; show (w.heap.push _)[g]? = _; rw [Array.getElem?_push_lt hglt, ← hg, Array.getElem?_eq_getElem hglt]
  have hvz : Wz.heap[vb]? = some (.cells (hC h).toArray 71 (0, 0)) := by rw [hWz]; show (w.heap.push _)[vb]? = _; rw [Array.getElem?_push_lt hvlt, ← hv, Array.getElem?_eq_getElem hvlt]
  have hqz : Wz.heap[q]? = some (.cells Z 71 (0, 0)) := by rw [hWz, hq]; show (w.heap.push _)[w.heap.size]? = _; simp
  have hqg : g ≠ q := by omega
  have hqv : vb ≠ q := by omega
  have s1 := hsl_from g n c i hnc hi
  have s2 := hsl_to g n c i (by omega)
  have s3 := hsl_from q (n + 1) C (i + 1) hC1 (by omega)
  have s4 := hsl_from q (n + 1) C i hC1 (by omega)
  rw [show ((i + 1 : Nat) : Int) = (i : Int) + 1 by omega] at s3
  rw [show n + 1 - (i + 1) = n - i by omega] at s3
  obtain ⟨L1, hL1⟩ : ∃ L1, L1 = Z.toList.take (i * 3) ++ hC h ++ Z.toList.drop (i * 3 + 3) := ⟨_, rfl⟩
  have hL1l : L1.length = C * 3 := by
    rw [hL1]; simp only [List.length_append, List.length_take, List.length_drop, hZl]
    have : (hC h).length = 3 := rfl
    omega
  obtain ⟨W1, hW1⟩ : ∃ W1, W1 = Wz.setRow q L1.toArray := ⟨_, rfl⟩
  have hcp1 : ∀ ty dc, (Builtin.copy_ #[49, 49] ty #[.slice (some ⟨q, i * 3, none⟩) (n + 1 - i) dc, .slice (some ⟨vb, 0, none⟩) 1 1]).run Tryz.prog Wz = .ok (goInt (Nat.min 1 (n + 1 - i))) W1 := fun ty dc => by
    rw [hW1, hL1]
    have h := run_copyK Wz 49 49 ty 71 3 q (i * 3) (n + 1 - i) dc ⟨vb, 0, none⟩ 1 1 Z 71 (hC h) Tryz.underlying49 sizeH3 hqz (by simp only [Nat.min_def]; split <;> simp [hC] <;> omega)
      (fun j v hj => by rw [Addr.add_lit, Nat.zero_add]; simpa [World.cell?, hvz] using hj) (by rw [← Array.length_toList, hZl]; have : (hC h).length = 3 := rfl; omega) (hC_one h)
    simpa [hC] using h
  have hg1 : W1.heap[g]? = some (.cells cur 71 (0, 0)) := by rw [hW1, setRow_other _ _ _ _ hqg]; exact hgz
  have hq1 : W1.heap[q]? = some (.cells L1.toArray 71 (0, 0)) := by rw [hW1]; exact setRow_heap _ _ _ _ _ _ hqz
  obtain ⟨L2, hL2⟩ : ∃ L2, L2 = L1.take ((i + 1) * 3) ++ flatH (l.drop i) ++ L1.drop ((i + 1) * 3 + (flatH (l.drop i)).length) := ⟨_, rfl⟩
  obtain ⟨W2, hW2⟩ : ∃ W2, W2 = W1.drew.setRow q L2.toArray := ⟨_, rfl⟩
  have hcp2 : ∀ ty dc sc, (Builtin.copy_ #[49, 49] ty #[.slice (some ⟨q, (i + 1) * 3, none⟩) (n - i) dc, .slice (some ⟨g, i * 3, none⟩) (n - i) sc]).run Tryz.prog W1.drew = .ok (goInt (Nat.min (n - i) (n - i))) W2 := fun ty dc sc => by
    rw [hW2, hL2]
    exact run_copyK W1.drew _ _ ty 71 3 q ((i + 1) * 3) (n - i) dc ⟨g, i * 3, none⟩ (n - i) sc L1.toArray 71 (flatH (l.drop i)) Tryz.underlying49 sizeH3 hq1 (by rw [hdl]; simp)
      (fun j v hj => by
        have hjl := (List.getElem?_eq_some_iff.1 hj).1
        rw [hdl] at hjl
        rw [← flatH_drop, List.getElem?_drop, ← htk, List.getElem?_take] at hj
        rw [if_pos (by omega)] at hj
        rw [Addr.add_lit]
        show W1.cell? ⟨g, i * 3 + j, none⟩ = some v
        simpa [World.cell?, hg1] using hj) (by simp only [List.size_toArray, hL1l]; omega) (flatH_one _)
  have HF : Hid (W2.ownsRow B 71 3 (.slice (some ⟨q, 0, none⟩) (n + 1) C) (n + 1) (flatH (insH l i h)) ∧ w.grownBy W2 none) := by
    refine ⟨⟨by rw [flatH_len, insH_len (by omega), hn], Or.inr ⟨q, C, L2.toArray, rfl, by omega, by rw [hW2]; exact setRow_heap _ _ _ _ _ _ hq1, hC1, hC2, ?_, ?_⟩⟩, ?_⟩
    · rw [hL2]
      simp only [List.size_toArray, List.length_append, List.length_take, List.length_drop, hL1l, hdl]
      omega
    · rw [hL2, hL1]
      exact lay_grow hn hi hZ1
    · rw [hW2, hW1, hWz]
      exact ⟨rfl, rfl, rfl, by rw [setRow_size]; show w.heap.size ≤ (World.setRow _ _ _).heap.size; rw [setRow_size]; show w.heap.size ≤ (w.heap.push _).size; simp, fun j hj _ => by rw [setRow_other _ _ _ _ (by omega)]; show (World.setRow _ _ _).heap[j]? = _; rw [setRow_other _ _ _ _ (by omega)]; show (w.heap.push _)[j]? = _; rw [Array.getElem?_push_lt hj, Array.getElem?_eq_getElem hj]⟩
  have i1 : ¬ (i : Int) = (n : Int) := by omega
  have i2 : IntKind.i64.wrap ((n : Int) + 1) = (n : Int) + 1 := by rw [IntKind.wrap_i64] <;> omega
  have i3 : IntKind.i64.wrap ((i : Int) + 1) = (i : Int) + 1 := by rw [IntKind.wrap_i64] <;> omega
  have i5 : IntKind.i64.wrap ((n : Int) + 1 - (i : Int)) = (n : Int) + 1 - (i : Int) := by rw [IntKind.wrap_i64] <;> omega
  have i4 : (n : Int) + 1 > (c : Int) := by omega
  have HA : Hid (∀ ty, (Builtin.append_ #[49, 3] ty #[.slice (some ⟨g, 0, none⟩) i c, .int .i64 ((n : Int) + 1 - (i : Int))]).run Tryz.prog w = .ok (.slice (some ⟨q, 0, none⟩) (n + 1) C) Wz) := hap
  have HC : Hid (∀ ty dc sc, (Builtin.copy_ #[49, 49] ty #[.slice (some ⟨q, (i + 1) * 3, none⟩) (n - i) dc, .slice (some ⟨g, i * 3, none⟩) (n - i) sc]).run Tryz.prog W1.drew = .ok (goInt (Nat.min (n - i) (n - i))) W2) := hcp2
  clear hcp2 hap hq hB hW1 hg1 hq1 hL1 hL2 hL1l hg hv htk hsz hlen hdl htl hglt hvlt hti hz hzs his hib hC0 hC2 hZ hZl hZ1 hWz hgz hvz hqz hW2 hqg hqv hC1 hfull hnc
  go_enter Tryz.func61, Tryz.ntmps61
  go_wp2_with (first | (at_builtin; refine Lib.wpList_append_run _ rfl _ _ 49 3 rfl _ _ rfl rfl _ _ (HA.out _) ?_) | (simp only [hcp1]))
  go_region_law (first | (refine step_copyK rfl _ _ 49 49 rfl _ _ (.slice (some ⟨q, (i + 1) * 3, none⟩) (n - i) (C - (i + 1))) (.slice (some ⟨g, i * 3, none⟩) (n - i) (c - i)) (by simp [Act.eval, Act.put]) (by simp [Act.eval, Act.put]) (HC.out _ _ _) ?_))
  go_wp2
  go_ret
  exact ⟨_, rfl, HF.out⟩
end Go.Proofs.YtnclegldhafaeaaGreatDoor
