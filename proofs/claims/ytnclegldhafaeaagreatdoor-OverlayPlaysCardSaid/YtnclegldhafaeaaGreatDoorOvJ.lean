/- slices.Insert of one half into a row of one's own, ahead of its end. -/
import Derived.Test.YtnclegldhafaeaaGreatDoorOvI
namespace Go.Proofs.YtnclegldhafaeaaGreatDoor
open Go.RowKit Go.Extern Go.Sort

attribute [local go_sem] Oper.semAt_some

/-- a half's cells. -/
def hC (h : H3) : List Value := [.int .i64 h.1, .int .u64 h.2.1, .int .i64 h.2.2]
theorem flatH_ins (l : List H3) (i : Nat) (h : H3) : flatH (insH l i h) = flatH (l.take i) ++ (hC h ++ flatH (l.drop i)) := by
  unfold insH
  rw [flatH_append]
  congr 1
/-- what is laid first behind, then in between. -/
theorem lay_shift {C : List Value} {l : List H3} {n i : Nat} {h : H3} (hl : l.length = n) (hi : i < n) (hC1 : C.take (n * 3) = flatH l) (hC2 : (n + 1) * 3 ≤ C.length) :
    ((C.take ((i + 1) * 3) ++ flatH (l.drop i) ++ C.drop ((i + 1) * 3 + (flatH (l.drop i)).length)).take (i * 3) ++ hC h ++ (C.take ((i + 1) * 3) ++ flatH (l.drop i) ++ C.drop ((i + 1) * 3 + (flatH (l.drop i)).length)).drop (i * 3 + 3)).take ((n + 1) * 3) = flatH (insH l i h) := by
  have e1 : (C.take ((i + 1) * 3)).length = (i + 1) * 3 := by rw [List.length_take]; omega
  have e2 : (flatH (l.drop i)).length = (n - i) * 3 := by rw [flatH_len, List.length_drop, hl]
  have e3 : C.take (i * 3) = flatH (l.take i) := by
    rw [← flatH_take, ← hC1, List.take_take, Nat.min_eq_left (by omega)]
  have e4 : (flatH (l.take i)).length = i * 3 := by rw [flatH_len, List.length_take, hl, Nat.min_eq_left (by omega)]
  have x1 : (C.take ((i + 1) * 3) ++ flatH (l.drop i) ++ C.drop ((i + 1) * 3 + (flatH (l.drop i)).length)).take (i * 3) = flatH (l.take i) := by
    rw [List.append_assoc, List.take_append_of_le_length (by omega), List.take_take, Nat.min_eq_left (by omega), e3]
  have x2 : (C.take ((i + 1) * 3) ++ flatH (l.drop i) ++ C.drop ((i + 1) * 3 + (flatH (l.drop i)).length)).drop (i * 3 + 3) = flatH (l.drop i) ++ C.drop ((i + 1) * 3 + (flatH (l.drop i)).length) := by
    rw [List.append_assoc, show i * 3 + 3 = (C.take ((i + 1) * 3)).length by omega, List.drop_left]
  rw [x1, x2, flatH_ins]
  generalize C.drop ((i + 1) * 3 + (flatH (l.drop i)).length) = R
  rw [show flatH (l.take i) ++ hC h ++ (flatH (l.drop i) ++ R) = (flatH (l.take i) ++ (hC h ++ flatH (l.drop i))) ++ R by simp]
  exact List.take_left' (by simp [hC, e4, e2]; omega)
theorem lay_grow {Z : List Value} {l : List H3} {n i : Nat} {h : H3} (hl : l.length = n) (hi : i < n) (hZ1 : Z.take (i * 3) = flatH (l.take i)) :
    ((Z.take (i * 3) ++ hC h ++ Z.drop (i * 3 + 3)).take ((i + 1) * 3) ++ flatH (l.drop i) ++ (Z.take (i * 3) ++ hC h ++ Z.drop (i * 3 + 3)).drop ((i + 1) * 3 + (flatH (l.drop i)).length)).take ((n + 1) * 3) = flatH (insH l i h) := by
  have e2 : (flatH (l.drop i)).length = (n - i) * 3 := by rw [flatH_len, List.length_drop, hl]
  have e4 : (flatH (l.take i)).length = i * 3 := by rw [flatH_len, List.length_take, hl, Nat.min_eq_left (by omega)]
  have e5 : (flatH (l.take i) ++ hC h).length = (i + 1) * 3 := by simp [hC, e4]; omega
  rw [hZ1]
  generalize (flatH (l.take i) ++ hC h ++ Z.drop (i * 3 + 3)).drop ((i + 1) * 3 + (flatH (l.drop i)).length) = R
  rw [← e5, List.take_left, flatH_ins]
  rw [show flatH (l.take i) ++ hC h ++ flatH (l.drop i) ++ R = (flatH (l.take i) ++ (hC h ++ flatH (l.drop i))) ++ R by simp]
  exact List.take_left' (by simp [hC, e4, e2]; omega)
theorem hC_one (h : H3) : ∀ v ∈ hC h, v.oneCell' = true := by
  intro v hv
  simp [hC] at hv
  rcases hv with rfl | rfl | rfl <;> rfl
theorem sizeH3 : (Tryz.prog.info? 71).map (·.size) = some 3 := by kernel_rfl

set_option maxRecDepth 100000 in
set_option maxHeartbeats 600000 in
theorem insert_shift (B g c n i : Nat) (cur : Array Value) (l : List H3) (h : H3) (vb : Nat) (w : World) (hn : l.length = n) (hi : i < n) (hroom : n + 1 ≤ c) (hcm : c ≤ maxLen) (hBg : B ≤ g) (hg : w.heap[g]? = some (.cells cur 71 (0, 0))) (hsz : cur.size = c * 3) (htk : cur.toList.take (n * 3) = flatH l)
    (hv : w.heap[vb]? = some (.cells (hC h).toArray 71 (0, 0))) (hne : vb ≠ g) :
    Calls Tryz.prog 61 #[.slice (some ⟨g, 0, none⟩) n c, .int .i64 (i : Int), .slice (some ⟨vb, 0, none⟩) 1 1] w fun e w' => e = .returned (.slice (some ⟨g, 0, none⟩) (n + 1) c) ∧ w'.ownsRow B 71 3 (.slice (some ⟨g, 0, none⟩) (n + 1) c) (n + 1) (flatH (insH l i h)) ∧ w.grownBy w' (some g) := by
  unfold maxLen at hcm
  have hlen : cur.toList.length = c * 3 := by simpa using hsz
  have hdl : (flatH (l.drop i)).length = (n - i) * 3 := by rw [flatH_len, List.length_drop, hn]
  have s1 := hsl_from g n c i (by omega) hi
  have s2 := hsl_to g n c (n + 1) hroom
  have s3 := hsl_from g (n + 1) c (i + 1) hroom (by omega)
  have s4 := hsl_from g (n + 1) c i hroom (by omega)
  rw [show ((n + 1 : Nat) : Int) = (n : Int) + 1 by omega] at s2
  rw [show ((i + 1 : Nat) : Int) = (i : Int) + 1 by omega] at s3
  have hov : ∀ lb cb, (callFunc 72 #[.slice (some ⟨vb, 0, none⟩) 1 1, .slice (some ⟨g, (i + 1) * 3, none⟩) lb cb]).run Tryz.prog w = .ok (.value (.bool false)) w := fun lb cb => by
    rw [run_callFunc_extern Tryz.func72 (by kernel_rfl) (by kernel_rfl) (by kernel_rfl) (e := Extern.SlicesOverlaps.overlaps #[49, 49] #[4]) (by kernel_rfl),
      Lib.run_overlaps_apart w 49 4 71 Tryz.underlying49 3 (fun w => by kernel_rfl) ⟨vb, 0, none⟩ ⟨g, (i + 1) * 3, none⟩ 1 1 lb cb hne 71 71 3 cur.size (by simp [World.shape?, hv, hC]) (by simp [World.shape?, hg]) (by omega) (by simp [World.frozen?, hv]) (by simp [World.frozen?, hv])]
    rfl
  obtain ⟨L1, hL1⟩ : ∃ L1, L1 = cur.toList.take ((i + 1) * 3) ++ flatH (l.drop i) ++ cur.toList.drop ((i + 1) * 3 + (flatH (l.drop i)).length) := ⟨_, rfl⟩
  have hL1l : L1.length = c * 3 := by rw [hL1]; simp only [List.length_append, List.length_take, List.length_drop, hdl, hlen]; omega
  have hcp1 : ∀ ty dc sc, (Builtin.copy_ #[49, 49] ty #[.slice (some ⟨g, (i + 1) * 3, none⟩) (n + 1 - (i + 1)) dc, .slice (some ⟨g, i * 3, none⟩) (n + 1 - i) sc]).run Tryz.prog w.drew = .ok (goInt (Nat.min (n + 1 - i) (n + 1 - (i + 1)))) (w.drew.setRow g L1.toArray) := fun ty dc sc => by
    rw [hL1]
    exact run_copyK w.drew _ _ ty 71 3 g ((i + 1) * 3) (n + 1 - (i + 1)) dc ⟨g, i * 3, none⟩ (n + 1 - i) sc cur 71 (flatH (l.drop i)) Tryz.underlying49 sizeH3 hg (by rw [hdl]; simp only [Nat.min_def]; split <;> omega)
      (fun j v hj => by
        have hjl := (List.getElem?_eq_some_iff.1 hj).1
        rw [hdl] at hjl
        rw [← flatH_drop, List.getElem?_drop, ← htk, List.getElem?_take] at hj
        rw [if_pos (by omega)] at hj
        rw [Addr.add_lit]
        show w.cell? ⟨g, i * 3 + j, none⟩ = some v
        simpa [World.cell?, hg] using hj) (by omega) (flatH_one _)
  obtain ⟨W1, hW1⟩ : ∃ W1, W1 = w.drew.setRow g L1.toArray := ⟨_, rfl⟩
  have hg1 : W1.heap[g]? = some (.cells L1.toArray 71 (0, 0)) := by rw [hW1]; exact setRow_heap _ _ _ _ _ _ hg
  have hv1 : W1.heap[vb]? = some (.cells (hC h).toArray 71 (0, 0)) := by rw [hW1, setRow_other _ _ _ _ hne]; exact hv
  obtain ⟨L2, hL2⟩ : ∃ L2, L2 = L1.take (i * 3) ++ hC h ++ L1.drop (i * 3 + 3) := ⟨_, rfl⟩
  have hcp2 : ∀ ty dc, (Builtin.copy_ #[49, 49] ty #[.slice (some ⟨g, i * 3, none⟩) (n + 1 - i) dc, .slice (some ⟨vb, 0, none⟩) 1 1]).run Tryz.prog W1 = .ok (goInt (Nat.min 1 (n + 1 - i))) (W1.setRow g L2.toArray) := fun ty dc => by
    rw [hL2]
    have h := run_copyK W1 49 49 ty 71 3 g (i * 3) (n + 1 - i) dc ⟨vb, 0, none⟩ 1 1 L1.toArray 71 (hC h) Tryz.underlying49 sizeH3 hg1 (by simp only [Nat.min_def]; split <;> simp [hC] <;> omega)
      (fun j v hj => by rw [Addr.add_lit, Nat.zero_add]; simpa [World.cell?, hv1] using hj) (by simp [hC, hL1l]; omega) (hC_one h)
    simpa [hC] using h
  have HF : Hid ((W1.setRow g L2.toArray).ownsRow B 71 3 (.slice (some ⟨g, 0, none⟩) (n + 1) c) (n + 1) (flatH (insH l i h)) ∧ w.grownBy (W1.setRow g L2.toArray) (some g)) := by
    refine ⟨⟨by rw [flatH_len, insH_len (by omega), hn], Or.inr ⟨g, c, L2.toArray, rfl, hBg, setRow_heap _ _ _ _ _ _ hg1, hroom, by unfold maxLen; omega, ?_, ?_⟩⟩, ?_⟩
    · rw [hL2]
      simp only [List.size_toArray, List.length_append, List.length_take, List.length_drop, hL1l]
      simp [hC]
      omega
    · rw [hL2, hL1]
      exact lay_shift hn hi htk (by omega)
    · rw [hW1]
      exact ⟨rfl, rfl, rfl, by show w.heap.size ≤ _; simp [World.setRow], fun j hj hne' => by rw [setRow_other _ _ _ _ (fun e => hne' (by rw [e])), setRow_other _ _ _ _ (fun e => hne' (by rw [e]))]; rfl⟩
  rw [← hW1] at hcp1
  have HC2 : Hid (∀ ty dc, (Builtin.copy_ #[49, 49] ty #[.slice (some ⟨g, i * 3, none⟩) (n + 1 - i) dc, .slice (some ⟨vb, 0, none⟩) 1 1]).run Tryz.prog W1 = .ok (goInt (Nat.min 1 (n + 1 - i))) (W1.setRow g L2.toArray)) := hcp2
  have HC1 : Hid (∀ ty dc sc, (Builtin.copy_ #[49, 49] ty #[.slice (some ⟨g, (i + 1) * 3, none⟩) (n - i) dc, .slice (some ⟨g, i * 3, none⟩) (n + 1 - i) sc]).run Tryz.prog w.drew = .ok (goInt (Nat.min (n + 1 - i) (n + 1 - (i + 1)))) W1) := fun ty dc sc => by
    have h := hcp1 ty dc sc
    rwa [show n + 1 - (i + 1) = n - i by omega] at h ⊢
  have i1 : ¬ (i : Int) = (n : Int) := by omega
  have i2 : IntKind.i64.wrap ((n : Int) + 1) = (n : Int) + 1 := by rw [IntKind.wrap_i64] <;> omega
  have i3 : IntKind.i64.wrap ((i : Int) + 1) = (i : Int) + 1 := by rw [IntKind.wrap_i64] <;> omega
  have i4 : ¬ (n : Int) + 1 > (c : Int) := by omega
  clear hcp1 hcp2 hW1 hg1 hv1 hL1 hL2 hL1l hg hv htk hsz hlen hdl
  go_enter Tryz.func61, Tryz.ntmps61
  go_wp2_with (simp only [hov])
  go_region_law (first | (refine step_copyK rfl _ _ 49 49 rfl _ _ (.slice (some ⟨g, (i + 1) * 3, none⟩) (n - i) (c - (i + 1))) (.slice (some ⟨g, i * 3, none⟩) (n + 1 - i) (c - i)) (by simp [Act.eval, Act.put]) (by simp [Act.eval, Act.put]) (HC1.out _ _ _) ?_))
  have hcp2 := HC2.out
  go_wp2_with (simp only [hcp2])
  go_ret
  exact ⟨rfl, HF.out⟩
end Go.Proofs.YtnclegldhafaeaaGreatDoor
