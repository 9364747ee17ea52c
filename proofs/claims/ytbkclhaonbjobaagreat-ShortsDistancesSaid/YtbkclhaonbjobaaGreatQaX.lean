/- slices.Insert of one half into a row of one's own. slices.Insert of one half into a row of one's own, ahead of its end. slices.Insert of one half into a row of one's own that is full, ahead of its end; and the three together. slices.Insert whole; a row's find. a row's set. -/
import Derived.Test.YtbkclhaonbjobaaGreatOvC
import Derived.Lib.Overlaps
import Derived.Maps.AppendAt
import Derived.Deep.RegionHeld3
namespace Go.Proofs.YtbkclhaonbjobaaGreat
open Go.RowKit Go.Extern Go.Sort

attribute [local go_sem] Oper.semAt_some

theorem Tryz.elemH : Tryz.prog.underlying 45 = some (.slice (Tryz.prog.elem 45)) := by kernel_rfl
theorem Tryz.sizeH (w : World) : (sizeOf (Tryz.prog.elem 45)).run Tryz.prog w = .ok 3 w := by kernel_rfl
theorem hsl_to (b n c i : Nat) (hi : i ≤ c) (w : World) : (Instr.slice 45 (.slice (some ⟨b, 0, none⟩) n c) none (some (.int .i64 (i : Int))) none).run Tryz.prog w = .ok (.slice (some ⟨b, 0, none⟩) i c) w := by
  rw [run_slice_h (ht := Tryz.elemH) (h0 := by omega) (h2 := by omega), Tryz.sizeH]
  have e2 : (i : Int).toNat = i := by omega
  simp only [Result.andThen_ok, sliced, e2]
  simp [Addr.add]
theorem hsl_from (b n c i : Nat) (h : n ≤ c) (hi : i < n) (w : World) : (Instr.slice 45 (.slice (some ⟨b, 0, none⟩) n c) (some (.int .i64 (i : Int))) none none).run Tryz.prog w = .ok (.slice (some ⟨b, i * 3, none⟩) (n - i) (c - i)) w := by
  have e2 : (i : Int).toNat = i := by omega
  rw [run_slice_l (ht := Tryz.elemH) (h0 := by omega) (h1 := by omega), Tryz.sizeH]
  simp only [Result.andThen_ok, sliced, e2]
  rw [if_neg (by omega)]
  show Result.ok (Value.slice (some ((⟨b, 0, none⟩ : Addr).add (i * 3))) _ _) w = _
  rw [Addr.add_lit, Nat.zero_add]
theorem hsl_end (ao : Option Addr) (n c : Nat) : ∃ bo bc, ∀ w, (Instr.slice 45 (.slice ao n c) (some (.int .i64 (n : Int))) none none).run Tryz.prog w = .ok (.slice bo 0 bc) w := by
  have e2 : (n : Int).toNat = n := by omega
  refine ⟨if c = n then ao else ao.map (·.add (n * 3)), c - n, fun w => ?_⟩
  rw [run_slice_l (ht := Tryz.elemH) (h0 := by omega) (h1 := by omega), Tryz.sizeH]
  simp only [Result.andThen_ok, sliced, e2, Nat.sub_self]
/-- a list with one more at a place. -/
def insH (l : List H3) (i : Nat) (h : H3) : List H3 := l.take i ++ h :: l.drop i
theorem insH_len {l : List H3} {i : Nat} {h : H3} (hi : i ≤ l.length) : (insH l i h).length = l.length + 1 := by
  unfold insH
  simp
  omega
theorem flatH_take (l : List H3) (i : Nat) : (flatH l).take (i * 3) = flatH (l.take i) := by
  rcases Nat.lt_or_ge i l.length with h | h
  · have e : l = l.take i ++ l.drop i := (List.take_append_drop i l).symm
    have hl : (flatH (l.take i)).length = i * 3 := by rw [flatH_len, List.length_take, Nat.min_eq_left (by omega)]
    conv => lhs; rw [e, flatH_append]
    rw [List.take_append_of_le_length (by omega), List.take_of_length_le (by omega)]
  · rw [List.take_of_length_le (by rw [flatH_len]; omega), List.take_of_length_le h]
theorem flatH_drop (l : List H3) (i : Nat) : (flatH l).drop (i * 3) = flatH (l.drop i) := by
  rcases Nat.lt_or_ge i l.length with h | h
  · have e : l = l.take i ++ l.drop i := (List.take_append_drop i l).symm
    have hl : (flatH (l.take i)).length = i * 3 := by rw [flatH_len, List.length_take, Nat.min_eq_left (by omega)]
    conv => lhs; rw [e, flatH_append]
    rw [List.drop_append_of_le_length (by omega), List.drop_of_length_le (by omega)]
    simp
  · rw [List.drop_of_length_le (by rw [flatH_len]; omega), List.drop_of_length_le h]
    rfl

end Go.Proofs.YtbkclhaonbjobaaGreat

namespace Go.Proofs.YtbkclhaonbjobaaGreat
open Go.RowKit Go.Extern Go.Sort

attribute [local go_sem] Oper.semAt_some

/-- a half's cells. -/
def hC (h : H3) : List Value := [.int .i64 h.1, .int .u64 h.2.1, .int .i64 h.2.2]
theorem flatH_ins (l : List H3) (i : Nat) (h : H3) : flatH (insH l i h) = flatH (l.take i) ++ (hC h ++ flatH (l.drop i)) := by
  unfold insH
  rw [flatH_append]
  congr 1
/-- what is laid first behind, then in between. -/
theorem lay_shift {C : List Value} {l : List H3} {n i : Nat} {h : H3} (hl : l.length = n) (hi : i < n) (hC1 : C.take (n * 3) = flatH l) (hC2 : (n + 1) * 3 ≤ C.length) :
    ((C.take ((i + 1) * 3) ++ flatH (l.drop i) ++ C.drop ((i + 1) * 3 + (flatH (l.drop i)).length)).take (i * 3) ++ hC h ++ (C.take ((i + 1) * 3) ++ flatH (l.drop i) ++ C.drop ((i + 1) * 3 + (flatH (l.drop i)).length)).drop (i * 3 + 3)).take ((n + 1) * 3) = flatH (insH l i h) := by
  have e1 : (C.take ((i + 1) * 3)).length = (i + 1) * 3 := by rw [List.length_take]; omega
  have e2 : (flatH (l.drop i)).length = (n - i) * 3 := by rw [flatH_len, List.length_drop, hl]
  have e3 : C.take (i * 3) = flatH (l.take i) := by
    rw [← flatH_take, ← hC1, List.take_take, Nat.min_eq_left (by omega)]
  have e4 : (flatH (l.take i)).length = i * 3 := by rw [flatH_len, List.length_take, hl, Nat.min_eq_left (by omega)]
  have x1 : (C.take ((i + 1) * 3) ++ flatH (l.drop i) ++ C.drop ((i + 1) * 3 + (flatH (l.drop i)).length)).take (i * 3) = flatH (l.take i) := by
    rw [List.append_assoc, List.take_append_of_le_length (by omega), List.take_take, Nat.min_eq_left (by omega), e3]
  have x2 : (C.take ((i + 1) * 3) ++ flatH (l.drop i) ++ C.drop ((i + 1) * 3 + (flatH (l.drop i)).length)).drop (i * 3 + 3) = flatH (l.drop i) ++ C.drop ((i + 1) * 3 + (flatH (l.drop i)).length) := by
    rw [List.append_assoc, show i * 3 + 3 = (C.take ((i + 1) * 3)).length by omega, List.drop_left]
  rw [x1, x2, flatH_ins]
  generalize C.drop ((i + 1) * 3 + (flatH (l.drop i)).length) = R
  rw [show flatH (l.take i) ++ hC h ++ (flatH (l.drop i) ++ R) = (flatH (l.take i) ++ (hC h ++ flatH (l.drop i))) ++ R by simp]
  exact List.take_left' (by simp [hC, e4, e2]; omega)
theorem lay_grow {Z : List Value} {l : List H3} {n i : Nat} {h : H3} (hl : l.length = n) (hi : i < n) (hZ1 : Z.take (i * 3) = flatH (l.take i)) :
    ((Z.take (i * 3) ++ hC h ++ Z.drop (i * 3 + 3)).take ((i + 1) * 3) ++ flatH (l.drop i) ++ (Z.take (i * 3) ++ hC h ++ Z.drop (i * 3 + 3)).drop ((i + 1) * 3 + (flatH (l.drop i)).length)).take ((n + 1) * 3) = flatH (insH l i h) := by
  have e2 : (flatH (l.drop i)).length = (n - i) * 3 := by rw [flatH_len, List.length_drop, hl]
  have e4 : (flatH (l.take i)).length = i * 3 := by rw [flatH_len, List.length_take, hl, Nat.min_eq_left (by omega)]
  have e5 : (flatH (l.take i) ++ hC h).length = (i + 1) * 3 := by simp [hC, e4]; omega
  rw [hZ1]
  generalize (flatH (l.take i) ++ hC h ++ Z.drop (i * 3 + 3)).drop ((i + 1) * 3 + (flatH (l.drop i)).length) = R
  rw [← e5, List.take_left, flatH_ins]
  rw [show flatH (l.take i) ++ hC h ++ flatH (l.drop i) ++ R = (flatH (l.take i) ++ (hC h ++ flatH (l.drop i))) ++ R by simp]
  exact List.take_left' (by simp [hC, e4, e2]; omega)
theorem hC_one (h : H3) : ∀ v ∈ hC h, v.oneCell' = true := by
  intro v hv
  simp [hC] at hv
  rcases hv with rfl | rfl | rfl <;> rfl
theorem sizeH3 : (Tryz.prog.info? 49).map (·.size) = some 3 := by kernel_rfl

set_option maxRecDepth 100000 in
set_option maxHeartbeats 600000 in
theorem insert_shift (B g c n i : Nat) (cur : Array Value) (l : List H3) (h : H3) (vb : Nat) (w : World) (hn : l.length = n) (hi : i < n) (hroom : n + 1 ≤ c) (hcm : c ≤ maxLen) (hBg : B ≤ g) (hg : w.heap[g]? = some (.cells cur 49 (0, 0))) (hsz : cur.size = c * 3) (htk : cur.toList.take (n * 3) = flatH l)
    (hv : w.heap[vb]? = some (.cells (hC h).toArray 49 (0, 0))) (hne : vb ≠ g) :
    Calls Tryz.prog 67 #[.slice (some ⟨g, 0, none⟩) n c, .int .i64 (i : Int), .slice (some ⟨vb, 0, none⟩) 1 1] w fun e w' => e = .returned (.slice (some ⟨g, 0, none⟩) (n + 1) c) ∧ w'.ownsRow B 49 3 (.slice (some ⟨g, 0, none⟩) (n + 1) c) (n + 1) (flatH (insH l i h)) ∧ w.grownBy w' (some g) := by
  unfold maxLen at hcm
  have hlen : cur.toList.length = c * 3 := by simpa using hsz
  have hdl : (flatH (l.drop i)).length = (n - i) * 3 := by rw [flatH_len, List.length_drop, hn]
  have s1 := hsl_from g n c i (by omega) hi
  have s2 := hsl_to g n c (n + 1) hroom
  have s3 := hsl_from g (n + 1) c (i + 1) hroom (by omega)
  have s4 := hsl_from g (n + 1) c i hroom (by omega)
  rw [show ((n + 1 : Nat) : Int) = (n : Int) + 1 by omega] at s2
  rw [show ((i + 1 : Nat) : Int) = (i : Int) + 1 by omega] at s3
  have hov : ∀ lb cb, (callFunc 84 #[.slice (some ⟨vb, 0, none⟩) 1 1, .slice (some ⟨g, (i + 1) * 3, none⟩) lb cb]).run Tryz.prog w = .ok (.value (.bool false)) w := fun lb cb => by
    rw [run_callFunc_extern Tryz.func84 (by kernel_rfl) (by kernel_rfl) (by kernel_rfl) (e := Extern.SlicesOverlaps.overlaps #[45, 45] #[4]) (by kernel_rfl),
      Lib.run_overlaps_apart w 45 4 49 Tryz.underlying45 3 (fun w => by kernel_rfl) ⟨vb, 0, none⟩ ⟨g, (i + 1) * 3, none⟩ 1 1 lb cb hne 49 49 3 cur.size (by simp [World.shape?, hv, hC]) (by simp [World.shape?, hg]) (by omega) (by simp [World.frozen?, hv]) (by simp [World.frozen?, hv])]
    rfl
  obtain ⟨L1, hL1⟩ : ∃ L1, L1 = cur.toList.take ((i + 1) * 3) ++ flatH (l.drop i) ++ cur.toList.drop ((i + 1) * 3 + (flatH (l.drop i)).length) := ⟨_, rfl⟩
  have hL1l : L1.length = c * 3 := by rw [hL1]; simp only [List.length_append, List.length_take, List.length_drop, hdl, hlen]; omega
  have hcp1 : ∀ ty dc sc, (Builtin.copy_ #[45, 45] ty #[.slice (some ⟨g, (i + 1) * 3, none⟩) (n + 1 - (i + 1)) dc, .slice (some ⟨g, i * 3, none⟩) (n + 1 - i) sc]).run Tryz.prog w.drew = .ok (goInt (Nat.min (n + 1 - i) (n + 1 - (i + 1)))) (w.drew.setRow g L1.toArray) := fun ty dc sc => by
    rw [hL1]
    exact run_copyK w.drew _ _ ty 49 3 g ((i + 1) * 3) (n + 1 - (i + 1)) dc ⟨g, i * 3, none⟩ (n + 1 - i) sc cur 49 (flatH (l.drop i)) Tryz.underlying45 sizeH3 hg (by rw [hdl]; simp only [Nat.min_def]; split <;> omega)
      (fun j v hj => by
        have hjl := (List.getElem?_eq_some_iff.1 hj).1
        rw [hdl] at hjl
        rw [← flatH_drop, List.getElem?_drop, ← htk, List.getElem?_take] at hj
        rw [if_pos (by omega)] at hj
        rw [Addr.add_lit]
        show w.cell? ⟨g, i * 3 + j, none⟩ = some v
        simpa [World.cell?, hg] using hj) (by omega) (flatH_one _)
  obtain ⟨W1, hW1⟩ : ∃ W1, W1 = w.drew.setRow g L1.toArray := ⟨_, rfl⟩
  have hg1 : W1.heap[g]? = some (.cells L1.toArray 49 (0, 0)) := by rw [hW1]; exact setRow_heap _ _ _ _ _ _ hg
  have hv1 : W1.heap[vb]? = some (.cells (hC h).toArray 49 (0, 0)) := by rw [hW1, setRow_other _ _ _ _ hne]; exact hv
  obtain ⟨L2, hL2⟩ : ∃ L2, L2 = L1.take (i * 3) ++ hC h ++ L1.drop (i * 3 + 3) := ⟨_, rfl⟩
  have hcp2 : ∀ ty dc, (Builtin.copy_ #[45, 45] ty #[.slice (some ⟨g, i * 3, none⟩) (n + 1 - i) dc, .slice (some ⟨vb, 0, none⟩) 1 1]).run Tryz.prog W1 = .ok (goInt (Nat.min 1 (n + 1 - i))) (W1.setRow g L2.toArray) := fun ty dc => by
    rw [hL2]
    have h := run_copyK W1 45 45 ty 49 3 g (i * 3) (n + 1 - i) dc ⟨vb, 0, none⟩ 1 1 L1.toArray 49 (hC h) Tryz.underlying45 sizeH3 hg1 (by simp only [Nat.min_def]; split <;> simp [hC] <;> omega)
      (fun j v hj => by rw [Addr.add_lit, Nat.zero_add]; simpa [World.cell?, hv1] using hj) (by simp [hC, hL1l]; omega) (hC_one h)
    simpa [hC] using h
  have HF : Hid ((W1.setRow g L2.toArray).ownsRow B 49 3 (.slice (some ⟨g, 0, none⟩) (n + 1) c) (n + 1) (flatH (insH l i h)) ∧ w.grownBy (W1.setRow g L2.toArray) (some g)) := by
    refine ⟨⟨by rw [flatH_len, insH_len (by omega), hn], Or.inr ⟨g, c, L2.toArray, rfl, hBg, setRow_heap _ _ _ _ _ _ hg1, hroom, by unfold maxLen; omega, ?_, ?_⟩⟩, ?_⟩
    · rw [hL2]
      simp only [List.size_toArray, List.length_append, List.length_take, List.length_drop, hL1l]
      simp [hC]
      omega
    · rw [hL2, hL1]
      exact lay_shift hn hi htk (by omega)
    · rw [hW1]
      exact ⟨rfl, rfl, rfl, by show w.heap.size ≤ _; simp [World.setRow], fun j hj hne' => by rw [setRow_other _ _ _ _ (fun e => hne' (by rw [e])), setRow_other _ _ _ _ (fun e => hne' (by rw [e]))]; rfl⟩
  rw [← hW1] at hcp1
  have HC2 : Hid (∀ ty dc, (Builtin.copy_ #[45, 45] ty #[.slice (some ⟨g, i * 3, none⟩) (n + 1 - i) dc, .slice (some ⟨vb, 0, none⟩) 1 1]).run Tryz.prog W1 = .ok (goInt (Nat.min 1 (n + 1 - i))) (W1.setRow g L2.toArray)) := hcp2
  have HC1 : Hid (∀ ty dc sc, (Builtin.copy_ #[45, 45] ty #[.slice (some ⟨g, (i + 1) * 3, none⟩) (n - i) dc, .slice (some ⟨g, i * 3, none⟩) (n + 1 - i) sc]).run Tryz.prog w.drew = .ok (goInt (Nat.min (n + 1 - i) (n + 1 - (i + 1)))) W1) := fun ty dc sc => by
    have h := hcp1 ty dc sc
    rwa [show n + 1 - (i + 1) = n - i by omega] at h ⊢
  have i1 : ¬ (i : Int) = (n : Int) := by omega
  have i2 : IntKind.i64.wrap ((n : Int) + 1) = (n : Int) + 1 := by rw [IntKind.wrap_i64] <;> omega
  have i3 : IntKind.i64.wrap ((i : Int) + 1) = (i : Int) + 1 := by rw [IntKind.wrap_i64] <;> omega
  have i4 : ¬ (n : Int) + 1 > (c : Int) := by omega
  clear hcp1 hcp2 hW1 hg1 hv1 hL1 hL2 hL1l hg hv htk hsz hlen hdl
  go_enter Tryz.func67, Tryz.ntmps67
  go_wp2_with (simp only [hov])
  go_region_law (first | (refine step_copyK rfl _ _ 45 45 rfl _ _ (.slice (some ⟨g, (i + 1) * 3, none⟩) (n - i) (c - (i + 1))) (.slice (some ⟨g, i * 3, none⟩) (n + 1 - i) (c - i)) (by simp [Act.eval, Act.put]) (by simp [Act.eval, Act.put]) (HC1.out _ _ _) ?_))
  have hcp2 := HC2.out
  go_wp2_with (simp only [hcp2])
  go_ret
  exact ⟨rfl, HF.out⟩
end Go.Proofs.YtbkclhaonbjobaaGreat

namespace Go.Proofs.YtbkclhaonbjobaaGreat
open Go.RowKit Go.Extern Go.Sort

attribute [local go_sem] Oper.semAt_some

theorem infoH3' : (Tryz.prog.info? 49).map (fun i => (i.zero.map (fun z => z.cells.size), i.size, i.bytes)) = some (some 3, 3, 24) := by kernel_rfl
theorem infoH3 : ∃ i z, Tryz.prog.info? 49 = some i ∧ i.zero = some z ∧ z.cells.size = 3 ∧ i.size = 3 ∧ i.bytes = 24 := by
  have h := infoH3'
  cases hq : Tryz.prog.info? 49 with
  | none => rw [hq] at h; simp at h
  | some i =>
    rw [hq] at h
    cases hz : i.zero with
    | none => simp [hz] at h
    | some z => simp [hz] at h; exact ⟨i, z, rfl, hz, h.1, h.2.1, h.2.2⟩
theorem setRow_size (W : World) (x : Nat) (y : Array Value) : (W.setRow x y).heap.size = W.heap.size := by simp [World.setRow]
theorem zeroCells_size (z : Array Value) (k : Nat) : (Builtin.zeroCells z k).size = k * z.size := by
  unfold Builtin.zeroCells
  simp
set_option maxRecDepth 100000 in
set_option maxHeartbeats 600000 in
theorem insert_grow (B g c n i : Nat) (cur : Array Value) (l : List H3) (h : H3) (vb : Nat) (w : World) (hn : l.length = n) (hi : i < n) (hfull : c < n + 1) (hnc : n ≤ c) (hcm : n ≤ 262144) (hg : w.heap[g]? = some (.cells cur 49 (0, 0))) (hsz : cur.size = c * 3) (htk : cur.toList.take (n * 3) = flatH l) (hB : B ≤ w.heap.size)
    (hv : w.heap[vb]? = some (.cells (hC h).toArray 49 (0, 0))) :
    Calls Tryz.prog 67 #[.slice (some ⟨g, 0, none⟩) n c, .int .i64 (i : Int), .slice (some ⟨vb, 0, none⟩) 1 1] w fun e w' => ∃ v', e = .returned v' ∧ w'.ownsRow B 49 3 v' (n + 1) (flatH (insH l i h)) ∧ w.grownBy w' none := by
  have hlen : cur.toList.length = c * 3 := by simpa using hsz
  have hdl : (flatH (l.drop i)).length = (n - i) * 3 := by rw [flatH_len, List.length_drop, hn]
  have htl : (flatH (l.take i)).length = i * 3 := by rw [flatH_len, List.length_take, hn, Nat.min_eq_left (by omega)]
  have hglt : g < w.heap.size := (Array.getElem?_eq_some_iff.1 hg).1
  have hvlt : vb < w.heap.size := (Array.getElem?_eq_some_iff.1 hv).1
  obtain ⟨ti, z, hti, hz, hzs, his, hib⟩ := infoH3
  obtain ⟨C, hC0⟩ : ∃ C, C = grownCap w (n + 1) c 49 := ⟨_, rfl⟩
  have hC1 : n + 1 ≤ C := hC0 ▸ grownCap_ge w (n + 1) c 49
  have hC2 : C ≤ maxLen := hC0 ▸ grownCap_le_maxLen w (n + 1) c 49 (by unfold maxLen; omega)
  obtain ⟨Z, hZ⟩ : ∃ Z, Z = (flatH (l.take i)).toArray ++ Builtin.zeroCells z.cells (n + 1 - i) ++ Builtin.zeroCells z.cells (C - (n + 1)) := ⟨_, rfl⟩
  have hZl : Z.toList.length = C * 3 := by
    rw [hZ]
    simp only [Array.length_toList, Array.size_append, zeroCells_size, hzs, List.size_toArray, htl]
    omega
  have hZ1 : Z.toList.take (i * 3) = flatH (l.take i) := by
    rw [hZ]
    simp only [Array.toList_append, List.append_assoc]
    exact List.take_left' htl
  obtain ⟨Wz, hWz⟩ : ∃ Wz, Wz = w.drew.alloc (.cells Z 49) := ⟨_, rfl⟩
  obtain ⟨q, hq⟩ : ∃ q, q = w.heap.size := ⟨_, rfl⟩
  have hap : ∀ ty, (Builtin.append_ #[45, 3] ty #[.slice (some ⟨g, 0, none⟩) i c, .int .i64 ((n : Int) + 1 - (i : Int))]).run Tryz.prog w = .ok (.slice (some ⟨q, 0, none⟩) (n + 1) C) Wz := fun ty => by
    have h := run_append_zeros_grow w 45 3 ty 49 ti z .i64 .i64 Tryz.underlying45 Tryz.underlying3 hti hz ⟨g, 0, none⟩ (flatH (l.take i)) i c (n + 1 - i) (by rw [htl, his])
      (fun j v hj => by
        have hjl := (List.getElem?_eq_some_iff.1 hj).1
        rw [htl] at hjl
        rw [← flatH_take, List.getElem?_take, if_pos (by omega), ← htk, List.getElem?_take, if_pos (by omega)] at hj
        rw [Addr.add_lit, Nat.zero_add]
        simpa [World.cell?, hg] using hj) (by omega) (by omega) (by omega) (by omega) (by rw [hib]; omega)
    rw [show i + (n + 1 - i) = n + 1 by omega, ← hC0, ← hZ, ← hWz, ← hq, show ((n + 1 - i : Nat) : Int) = (n : Int) + 1 - (i : Int) by omega] at h
    exact h
  have hgz : Wz.heap[g]? = some (.cells cur 49 (0, 0)) := by rw [hWz]; show (w.heap.push _)[g]? = _; rw [Array.getElem?_push_lt hglt, ← hg, Array.getElem?_eq_getElem hglt]
  have hvz : Wz.heap[vb]? = some (.cells (hC h).toArray 49 (0, 0)) := by rw [hWz]; show (w.heap.push _)[vb]? = _; rw [Array.getElem?_push_lt hvlt, ← hv, Array.getElem?_eq_getElem hvlt]
  have hqz : Wz.heap[q]? = some (.cells Z 49 (0, 0)) := by rw [hWz, hq]; show (w.heap.push _)[w.heap.size]? = _; simp
  have hqg : g ≠ q := by omega
  have hqv : vb ≠ q := by omega
  have s1 := hsl_from g n c i hnc hi
  have s2 := hsl_to g n c i (by omega)
  have s3 := hsl_from q (n + 1) C (i + 1) hC1 (by omega)
  have s4 := hsl_from q (n + 1) C i hC1 (by omega)
  rw [show ((i + 1 : Nat) : Int) = (i : Int) + 1 by omega] at s3
  rw [show n + 1 - (i + 1) = n - i by omega] at s3
  obtain ⟨L1, hL1⟩ : ∃ L1, L1 = Z.toList.take (i * 3) ++ hC h ++ Z.toList.drop (i * 3 + 3) := ⟨_, rfl⟩
  have hL1l : L1.length = C * 3 := by
    rw [hL1]; simp only [List.length_append, List.length_take, List.length_drop, hZl]
    have : (hC h).length = 3 := rfl
    omega
  obtain ⟨W1, hW1⟩ : ∃ W1, W1 = Wz.setRow q L1.toArray := ⟨_, rfl⟩
  have hcp1 : ∀ ty dc, (Builtin.copy_ #[45, 45] ty #[.slice (some ⟨q, i * 3, none⟩) (n + 1 - i) dc, .slice (some ⟨vb, 0, none⟩) 1 1]).run Tryz.prog Wz = .ok (goInt (Nat.min 1 (n + 1 - i))) W1 := fun ty dc => by
    rw [hW1, hL1]
    have h := run_copyK Wz 45 45 ty 49 3 q (i * 3) (n + 1 - i) dc ⟨vb, 0, none⟩ 1 1 Z 49 (hC h) Tryz.underlying45 sizeH3 hqz (by simp only [Nat.min_def]; split <;> simp [hC] <;> omega)
      (fun j v hj => by rw [Addr.add_lit, Nat.zero_add]; simpa [World.cell?, hvz] using hj) (by rw [← Array.length_toList, hZl]; have : (hC h).length = 3 := rfl; omega) (hC_one h)
    simpa [hC] using h
  have hg1 : W1.heap[g]? = some (.cells cur 49 (0, 0)) := by rw [hW1, setRow_other _ _ _ _ hqg]; exact hgz
  have hq1 : W1.heap[q]? = some (.cells L1.toArray 49 (0, 0)) := by rw [hW1]; exact setRow_heap _ _ _ _ _ _ hqz
  obtain ⟨L2, hL2⟩ : ∃ L2, L2 = L1.take ((i + 1) * 3) ++ flatH (l.drop i) ++ L1.drop ((i + 1) * 3 + (flatH (l.drop i)).length) := ⟨_, rfl⟩
  obtain ⟨W2, hW2⟩ : ∃ W2, W2 = W1.drew.setRow q L2.toArray := ⟨_, rfl⟩
  have hcp2 : ∀ ty dc sc, (Builtin.copy_ #[45, 45] ty #[.slice (some ⟨q, (i + 1) * 3, none⟩) (n - i) dc, .slice (some ⟨g, i * 3, none⟩) (n - i) sc]).run Tryz.prog W1.drew = .ok (goInt (Nat.min (n - i) (n - i))) W2 := fun ty dc sc => by
    rw [hW2, hL2]
    exact run_copyK W1.drew _ _ ty 49 3 q ((i + 1) * 3) (n - i) dc ⟨g, i * 3, none⟩ (n - i) sc L1.toArray 49 (flatH (l.drop i)) Tryz.underlying45 sizeH3 hq1 (by rw [hdl]; simp)
      (fun j v hj => by
        have hjl := (List.getElem?_eq_some_iff.1 hj).1
        rw [hdl] at hjl
        rw [← flatH_drop, List.getElem?_drop, ← htk, List.getElem?_take] at hj
        rw [if_pos (by omega)] at hj
        rw [Addr.add_lit]
        show W1.cell? ⟨g, i * 3 + j, none⟩ = some v
        simpa [World.cell?, hg1] using hj) (by simp only [List.size_toArray, hL1l]; omega) (flatH_one _)
  have HF : Hid (W2.ownsRow B 49 3 (.slice (some ⟨q, 0, none⟩) (n + 1) C) (n + 1) (flatH (insH l i h)) ∧ w.grownBy W2 none) := by
    refine ⟨⟨by rw [flatH_len, insH_len (by omega), hn], Or.inr ⟨q, C, L2.toArray, rfl, by omega, by rw [hW2]; exact setRow_heap _ _ _ _ _ _ hq1, hC1, hC2, ?_, ?_⟩⟩, ?_⟩
    · rw [hL2]
      simp only [List.size_toArray, List.length_append, List.length_take, List.length_drop, hL1l, hdl]
      omega
    · rw [hL2, hL1]
      exact lay_grow hn hi hZ1
    · rw [hW2, hW1, hWz]
      exact ⟨rfl, rfl, rfl, by rw [setRow_size]; show w.heap.size ≤ (World.setRow _ _ _).heap.size; rw [setRow_size]; show w.heap.size ≤ (w.heap.push _).size; simp, fun j hj _ => by rw [setRow_other _ _ _ _ (by omega)]; show (World.setRow _ _ _).heap[j]? = _; rw [setRow_other _ _ _ _ (by omega)]; show (w.heap.push _)[j]? = _; rw [Array.getElem?_push_lt hj, Array.getElem?_eq_getElem hj]⟩
  have i1 : ¬ (i : Int) = (n : Int) := by omega
  have i2 : IntKind.i64.wrap ((n : Int) + 1) = (n : Int) + 1 := by rw [IntKind.wrap_i64] <;> omega
  have i3 : IntKind.i64.wrap ((i : Int) + 1) = (i : Int) + 1 := by rw [IntKind.wrap_i64] <;> omega
  have i5 : IntKind.i64.wrap ((n : Int) + 1 - (i : Int)) = (n : Int) + 1 - (i : Int) := by rw [IntKind.wrap_i64] <;> omega
  have i4 : (n : Int) + 1 > (c : Int) := by omega
  have HA : Hid (∀ ty, (Builtin.append_ #[45, 3] ty #[.slice (some ⟨g, 0, none⟩) i c, .int .i64 ((n : Int) + 1 - (i : Int))]).run Tryz.prog w = .ok (.slice (some ⟨q, 0, none⟩) (n + 1) C) Wz) := hap
  have HC : Hid (∀ ty dc sc, (Builtin.copy_ #[45, 45] ty #[.slice (some ⟨q, (i + 1) * 3, none⟩) (n - i) dc, .slice (some ⟨g, i * 3, none⟩) (n - i) sc]).run Tryz.prog W1.drew = .ok (goInt (Nat.min (n - i) (n - i))) W2) := hcp2
  clear hcp2 hap hq hB hW1 hg1 hq1 hL1 hL2 hL1l hg hv htk hsz hlen hdl htl hglt hvlt hti hz hzs his hib hC0 hC2 hZ hZl hZ1 hWz hgz hvz hqz hW2 hqg hqv hC1 hfull hnc
  go_enter Tryz.func67, Tryz.ntmps67
  go_wp2_with (first | (at_builtin; refine Lib.wpList_append_run _ rfl _ _ 45 3 rfl _ _ rfl rfl _ _ (HA.out _) ?_) | (simp only [hcp1]))
  go_region_law (first | (refine step_copyK rfl _ _ 45 45 rfl _ _ (.slice (some ⟨q, (i + 1) * 3, none⟩) (n - i) (C - (i + 1))) (.slice (some ⟨g, i * 3, none⟩) (n - i) (c - i)) (by simp [Act.eval, Act.put]) (by simp [Act.eval, Act.put]) (HC.out _ _ _) ?_))
  go_wp2
  go_ret
  exact ⟨_, rfl, HF.out⟩
end Go.Proofs.YtbkclhaonbjobaaGreat

namespace Go.Proofs.YtbkclhaonbjobaaGreat
open Go.RowKit Go.Extern Go.Sort

attribute [local go_sem] Oper.semAt_some

/-- append of halves onto a row of one's own: where it stands then. -/
theorem wpList_append_hsa {w : World} {ops : Array Oper} {rest : List Oper} {o : Oper} {a : Act} {Q : Exit → Act → World → Prop} (hgd : o.guard = none) (s x : Operand)
    (ho : o.op = .call { callee := .builtin .append, args := #[s, x], argTypes := #[45, 45] })
    (base : Nat) (v : Value) (L : List (Int × Int × Int)) (hs : a.eval s = v) (hown : w.ownsRow base 49 3 v L.length (flatH L))
    (ad : Addr) (ac : Nat) (xs : List (Int × Int × Int)) (hx : a.eval x = .slice (some ad) xs.length ac) (hl : HasHs w (.slice (some ad) xs.length ac) xs)
    (hlen : L.length + xs.length ≤ 1048576) (hbase : base ≤ w.heap.size)
    (h : ∀ v' w', w'.ownsRow base 49 3 v' (L ++ xs).length (flatH (L ++ xs)) → w.grownBy w' v.ownBlock → (∀ k, v'.ownBlock = some k → v.ownBlock = some k ∨ w.heap.size ≤ k) → wpList Tryz.prog ops Q rest (a.put o.dst v') w') : wpList Tryz.prog ops Q (o :: rest) a w := by
  obtain ⟨i0, hi, hz0, hz1, hz2⟩ : ∃ i, Tryz.prog.info? 49 = some i ∧ i.zero = some (.agg #[.int .i64 0, .int .u64 0, .int .i64 0]) ∧ i.size = 3 ∧ i.bytes = 24 := by
    have h := Tryz.infoH
    cases hi : Tryz.prog.info? 49 with
    | none => rw [hi] at h; cases h
    | some i => rw [hi] at h; simp at h; exact ⟨i, rfl, h.1, h.2.1, h.2.2⟩
  refine wpList_append_own_at _ hgd s x 45 ho base 49 i0 _ 3 24 Tryz.underlying45 hi hz0 hz1 hz2 rfl (by decide) v L.length (flatH L) hs hown ad xs.length ac (flatH xs) hx (flatH_len xs) (flatH_at hl) (flatH_one xs) (by unfold maxLen; omega) (by omega) hbase ?_
  intro v' w' h1 h2 _ h4
  exact h v' w' (by rw [List.length_append, flatH_append]; exact h1) h2 (fun k hk => by
    rcases h4 with h4 | h4
    · exact Or.inl (h4 ▸ hk)
    · rw [h4] at hk
      cases hk
      exact Or.inr (Nat.le_refl _))

set_option maxRecDepth 100000 in
set_option maxHeartbeats 4000000 in
theorem insert_enda (B : Nat) (v : Value) (l : List H3) (h : H3) (vb : Nat) (w : World) (ho : w.ownsRow B 49 3 v l.length (flatH l)) (hB : B ≤ w.heap.size) (hv : HasHs w (.slice (some ⟨vb, 0, none⟩) 1 1) [h]) (hl : l.length ≤ 262144) :
    Calls Tryz.prog 67 #[v, .int .i64 (l.length : Int), .slice (some ⟨vb, 0, none⟩) 1 1] w fun e w' => ∃ v', e = .returned v' ∧ w'.ownsRow B 49 3 v' (l.length + 1) (flatH (insH l l.length h)) ∧ w.grownBy w' v.ownBlock ∧ (∀ k, v'.ownBlock = some k → v.ownBlock = some k ∨ w.heap.size ≤ k) := by
  have e1 : insH l l.length h = l ++ [h] := by unfold insH; simp
  obtain ⟨ao, c, rfl⟩ := rowH_slice ho
  obtain ⟨bo, bc, hend⟩ := hsl_end ao l.length c
  have HO : Hid (w.ownsRow B 49 3 (.slice ao l.length c) l.length (flatH l) ∧ B ≤ w.heap.size ∧ HasHs w (.slice (some ⟨vb, 0, none⟩) 1 1) [h]) := ⟨ho, hB, hv⟩
  rw [e1]
  clear ho hv hB e1
  go_enter Tryz.func67, Tryz.ntmps67
  go_wp2_with (at_builtin; refine wpList_append_hsa rfl _ _ rfl B (.slice ao l.length c) l rfl HO.out.1 ⟨vb, 0, none⟩ 1 [h] rfl HO.out.2.2 (by simp only [List.length_cons, List.length_nil]; omega) HO.out.2.1 ?_; intro v' w' hown hgr hfr; have H1 : Hid (w'.ownsRow B 49 3 v' (l ++ [h]).length (flatH (l ++ [h])) ∧ w.grownBy w' (Value.slice ao l.length c).ownBlock ∧ (∀ k, v'.ownBlock = some k → (Value.slice ao l.length c).ownBlock = some k ∨ w.heap.size ≤ k)) := ⟨hown, hgr, hfr⟩; clear hown hgr hfr)
  go_ret
  exact ⟨v', rfl, by have := H1.out.1; rw [List.length_append] at this; exact this, H1.out.2⟩

theorem hs_cells {w : World} {vb : Nat} {h : H3} {T : TypeId} (hv : w.heap[vb]? = some (.cells (hC h).toArray T (0, 0))) : HasHs w (.slice (some ⟨vb, 0, none⟩) 1 1) [h] := by
  refine ⟨_, _, rfl, fun j x hj => ?_⟩
  cases j with
  | zero =>
    simp at hj
    subst hj
    exact ⟨_, 0, rfl, lt_of_get hv, by simp [World.cell?, hv, hC], by simp [World.cell?, hv, hC], by simp [World.cell?, hv, hC]⟩
  | succ j => simp at hj
theorem insert_calls (B : Nat) (v : Value) (l : List H3) (i : Nat) (h : H3) (vb : Nat) (w : World) (ho : w.ownsRow B 49 3 v l.length (flatH l)) (hB : B ≤ w.heap.size) (hi : i ≤ l.length) (hv : w.heap[vb]? = some (.cells (hC h).toArray 49 (0, 0))) (hne : v.ownBlock ≠ some vb) (hl : l.length ≤ 262144) :
    Calls Tryz.prog 67 #[v, .int .i64 (i : Int), .slice (some ⟨vb, 0, none⟩) 1 1] w fun e w' => ∃ v', e = .returned v' ∧ w'.ownsRow B 49 3 v' (l.length + 1) (flatH (insH l i h)) ∧ w.grownBy w' v.ownBlock ∧ (∀ k, v'.ownBlock = some k → v.ownBlock = some k ∨ w.heap.size ≤ k) := by
  rcases Nat.lt_or_ge i l.length with hi' | hi'
  · rcases ho.2 with ⟨_, h0⟩ | ⟨g, c, cur, rfl, hBg, hg, hnc, hcm, hsz, htk⟩
    · omega
    · have hgv : vb ≠ g := fun e => hne (by rw [e]; rfl)
      rcases Nat.lt_or_ge c (l.length + 1) with hr | hr
      · refine (insert_grow w.heap.size g c l.length i cur l h vb w rfl hi' hr hnc hl hg hsz htk (Nat.le_refl _) hv).mono ?_
        rintro e w' ⟨v', rfl, h1, h2⟩
        refine ⟨v', rfl, ⟨h1.1, ?_⟩, h2.but _, fun k hk => Or.inr (h1.lt k hk).1⟩
        rcases h1.2 with h | ⟨g', c', cur', e', hb', r⟩
        · exact Or.inl h
        · exact Or.inr ⟨g', c', cur', e', Nat.le_trans hB hb', r⟩
      · refine (insert_shift B g c l.length i cur l h vb w rfl hi' hr hcm hBg hg hsz htk hv hgv).mono ?_
        rintro e w' ⟨rfl, h1, h2⟩
        exact ⟨_, rfl, h1, h2, fun k hk => Or.inl hk⟩
  · obtain rfl : i = l.length := by omega
    exact insert_enda B v l h vb w ho hB (hs_cells hv) hl

set_option maxHeartbeats 1000000 in
theorem find_calls (rb ro : Nat) (v : Value) (l : List H3) (x : Int) (w : World) (hc : w.cell? ⟨rb, ro, none⟩ = some v) (h : HasHs w v l) (hr : RiseH l) (hn : l.length < 4611686018427387904) :
    Calls Tryz.prog 66 #[.pointer (some ⟨rb, ro, none⟩), .int .i64 x] w fun e w' => e = .returned (.tuple #[.int .i64 (lowH l x : Nat), .bool (hasH l x)]) ∧ Below w.heap.size w w' := by
  obtain ⟨ao, cap, rfl, _⟩ := id h
  have HC : Hid (type_of% (bsf_calls ao cap l x w h hr hn)) := bsf_calls ao cap l x w h hr hn
  clear h hr
  go_enter Tryz.func66, Tryz.ntmps66
  go_wp2_with fail
  refine HC.out.mono ?_
  rintro e w1 ⟨rfl, hb⟩
  go_wp2
  go_ret2
  exact ⟨rfl, hb⟩
end Go.Proofs.YtbkclhaonbjobaaGreat

namespace Go.Proofs.YtbkclhaonbjobaaGreat
open Go.RowKit Go.Extern Go.Sort

attribute [local go_sem] Oper.semAt_some

/-- a row with a half put in its place. -/
def setH (l : List H3) (h : H3) : List H3 := if hasH l h.1 then l.set (lowH l h.1) h else insH l (lowH l h.1) h
/-- what a row's method leaves: its own two cells and its halves may change. -/
structure Moved (w w' : World) (rb ro : Nat) (cur : Array Value) (T : TypeId) (v v' : Value) (gn' : Nat) : Prop where
  os : w'.os = w.os
  tape : w'.tape = w.tape
  output : w'.output = w.output
  size : w.heap.size ≤ w'.heap.size
  block : ∀ k, k < w.heap.size → k ≠ rb → v.ownBlock ≠ some k → w'.heap[k]? = w.heap[k]?
  row : w'.heap[rb]? = some (.cells ((cur.setIfInBounds ro v').setIfInBounds (ro + 1) (.int .i64 gn')) T (0, 0))
  own : ∀ k, v'.ownBlock = some k → v.ownBlock = some k ∨ w.heap.size ≤ k
theorem lowH_le (l : List H3) (x : Int) : lowH l x ≤ l.length := List.countP_le_length

theorem hsc_same {w : World} {b o : Nat} {c : Array Value} {t : TypeId} (v : Value) (h : w.heap[b]? = some (.cells c t (0, 0))) : (w.setCell ⟨b, o, none⟩ v).heap[b]? = some (.cells (c.setIfInBounds o v) t (0, 0)) := by
  simp only [World.setCell, Array.getElem?_modify]
  simp [h]
theorem set_self {c : Array Value} {o : Nat} {v : Value} (h : c[o]? = some v) : c.setIfInBounds o v = c := by
  apply Array.ext_getElem?
  intro i
  rw [Array.getElem?_setIfInBounds]
  split
  · subst_vars
    rw [h]
    rw [if_pos (Array.getElem?_eq_some_iff.1 h).1]
  · rfl
theorem own_set {w : World} {B n rb ro : Nat} {v : Value} {xs : List Value} (h : w.ownsRow B 49 3 v n xs) (hne : v.ownBlock ≠ some rb) (x : Value) : (w.setCell ⟨rb, ro, none⟩ x).ownsRow B 49 3 v n xs := by
  obtain ⟨h1, h2⟩ := h
  refine ⟨h1, ?_⟩
  rcases h2 with h2 | ⟨g, cap, cur, rfl, hb, hh, r⟩
  · exact Or.inl h2
  · exact Or.inr ⟨g, cap, cur, rfl, hb, (heap_setCell_other _ _ _ _ (fun e => hne (by rw [show g = rb from e]; rfl))).trans hh, r⟩
theorem moved_of {w W1 w2 : World} {rb ro gn : Nat} {cur : Array Value} {T : TypeId} {v v' : Value} (hb : Below w.heap.size w W1) (hgr : W1.grownBy w2 v.ownBlock) (hrow : w.heap[rb]? = some (.cells cur T (0, 0))) (hgn : cur[ro + 1]? = some (.int .i64 gn)) (hne : v.ownBlock ≠ some rb) (hown : ∀ k, v'.ownBlock = some k → v.ownBlock = some k ∨ W1.heap.size ≤ k) :
    Moved w (w2.setCell ⟨rb, ro, none⟩ v') rb ro cur T v v' gn := by
  have hlt := lt_of_get hrow
  have hs := hb.size
  refine ⟨hgr.os.trans hb.os, hgr.tape.trans hb.tape, hgr.output.trans hb.output, by have := hgr.size; simp; omega, fun k hk h1 h2 => ?_, ?_, fun k hk => (hown k hk).imp id (fun h => by omega)⟩
  · rw [heap_setCell_other _ _ _ _ h1, hgr.block k (by omega) (fun e => h2 e.symm), hb.block k hk]
  · have h2 : w2.heap[rb]? = some (.cells cur T (0, 0)) := by rw [hgr.block rb (by omega) (fun e => hne e.symm), hb.block rb hlt]; exact hrow
    rw [hsc_same _ h2]
    rw [set_self (c := cur.setIfInBounds ro v') (o := ro + 1)]
    rw [Array.getElem?_setIfInBounds, if_neg (by omega)]
    exact hgn

theorem hasH_low {l : List H3} {x : Int} (hr : RiseH l) (h : hasH l x = true) : lowH l x < l.length ∧ ∀ a, l[lowH l x]? = some a → a.1 = x := by
  unfold hasH at h
  obtain ⟨a, ha, hax⟩ := List.any_eq_true.1 h
  obtain ⟨i, hi⟩ := List.getElem?_of_mem ha
  have hx : a.1 = x := by simpa using hax
  have hil := (List.getElem?_eq_some_iff.1 hi).1
  have e : lowH l x = i := countP_at _ l i (by omega) (fun t b ht hb => decide_eq_true (by have := hr.lt hb hi ht; omega)) (fun t b ht hb => decide_eq_false (by
    rcases Nat.lt_or_ge i t with h | h
    · have := hr.lt hi hb h
      omega
    · obtain rfl : t = i := by omega
      rw [hi] at hb
      cases hb
      omega))
  rw [e]
  refine ⟨hil, fun b hb => ?_⟩
  rw [hi] at hb
  cases hb
  exact hx

theorem getElem?_bang (c : Array Value) (i : Nat) (h : i < c.size) : c[i]? = some c[i]! := by
  rw [Array.getElem?_eq_getElem h, getElem!_pos c i h]
theorem flatH_cons (b : H3) (r : List H3) : flatH (b :: r) = .int .i64 b.1 :: .int .u64 b.2.1 :: .int .i64 b.2.2 :: flatH r := by simp [flatH]
theorem flatH_set (l : List H3) (i : Nat) (a : H3) : flatH (l.set i a) = (((flatH l).set (i * 3) (.int .i64 a.1)).set (i * 3 + 1) (.int .u64 a.2.1)).set (i * 3 + 2) (.int .i64 a.2.2) := by
  induction l generalizing i with
  | nil => simp [flatH]
  | cons b r ih =>
    cases i with
    | zero => simp [flatH_cons]
    | succ i =>
      rw [List.set_cons_succ, flatH_cons, flatH_cons, ih i, show (i + 1) * 3 = i * 3 + 1 + 1 + 1 by omega, show i * 3 + 1 + 1 + 1 + 2 = i * 3 + 2 + 1 + 1 + 1 by omega]
      simp only [List.set_cons_succ]

set_option maxHeartbeats 1000000 in
theorem set_calls (B rb ro : Nat) (cur : Array Value) (T : TypeId) (v : Value) (gn : Nat) (l : List H3) (h : H3) (w : World) (hrow : w.heap[rb]? = some (.cells cur T (0, 0))) (hv : cur[ro]? = some v) (hgn : cur[ro + 1]? = some (.int .i64 gn)) (ho : w.ownsRow B 49 3 v l.length (flatH l)) (hne : v.ownBlock ≠ some rb) (hB : B ≤ w.heap.size) (hr : RiseH l) (hl : l.length ≤ 262144) :
    Calls Tryz.prog 54 #[.pointer (some ⟨rb, ro, none⟩), hV h] w fun e w' => e = .returned (.tuple #[]) ∧ ∃ v', w'.ownsRow B 49 3 v' (setH l h).length (flatH (setH l h)) ∧ Moved w w' rb ro cur T v v' gn := by
  have hlt := lt_of_get hrow
  have hc0 : w.cell? ⟨rb, ro, none⟩ = some v := by simpa [World.cell?, hrow] using hv
  obtain ⟨W0, hW0⟩ : ∃ W0, W0 = w.alloc (.cells (hC h).toArray 49) := ⟨_, rfl⟩
  have hb0 : Below w.heap.size w W0 := by rw [hW0]; exact (Below.refl _ w).alloc (Nat.le_refl _) _
  have ho0 := rowH_keep ho hb0
  have hc1 : W0.cell? ⟨rb, ro, none⟩ = some v := (hb0.cell (p := ⟨rb, ro, none⟩) hlt).trans hc0
  have HF : Hid (type_of% (find_calls rb ro v l h.1 W0 hc1 (hs_of_rowH ho0) hr (by omega))) := find_calls rb ro v l h.1 W0 hc1 (hs_of_rowH ho0) hr (by omega)
  have HW : Hid (w.alloc (.cells #[.int .i64 h.1, .int .u64 h.2.1, .int .i64 h.2.2] 49) = W0) := hW0.symm
  have hz0 : W0.heap.size = w.heap.size + 1 := by rw [hW0]; show (w.heap.push _).size = _; simp
  have hq0 : W0.heap[w.heap.size]? = some (.cells (hC h).toArray 49 (0, 0)) := by rw [hW0]; exact heap_new w _
  have HQ : Hid (W0.heap.size = w.heap.size + 1 ∧ W0.heap[w.heap.size]? = some (.cells (hC h).toArray 49 (0, 0))) := ⟨hz0, hq0⟩
  have HB : Hid (Below w.heap.size w W0) := hb0
  have HO : Hid (w.ownsRow B 49 3 v l.length (flatH l) ∧ w.heap[rb]? = some (.cells cur T (0, 0))) := ⟨ho, hrow⟩
  unfold hV
  have HH : Hid (lowH l h.1 ≤ l.length ∧ v.ownBlock ≠ some rb ∧ rb < w.heap.size ∧ cur[ro]? = some v ∧ cur[ro + 1]? = some (.int .i64 gn)) := ⟨lowH_le _ _, hne, hlt, hv, hgn⟩
  have hbz : B ≤ w.heap.size := hB
  have HR : Hid (hasH l h.1 = true → lowH l h.1 < l.length ∧ ∀ a, l[lowH l h.1]? = some a → a.1 = h.1) := hasH_low hr
  clear hW0 hb0 ho0 hr ho hc1 hz0 hq0 hne hlt hv hgn hrow hc0 hB
  cases hth : hasH l h.1 with
  | false =>
    have ES : Hid (setH l h = insH l (lowH l h.1) h) := by show _ = _; simp [setH, hth]
    rw [hth] at HF
    go_enter Tryz.func54, Tryz.ntmps54
    go_wp2_with fail
    rw [HW.out]
    refine HF.out.mono ?_
    rintro e w1 ⟨rfl, hb1⟩
    have HB1 : Hid (Below W0.heap.size W0 w1) := hb1
    have hrb1 : w1.heap[rb]? = some (.cells cur T (0, 0)) := ((HB.out.trans (hb1.mono HB.out.size)).block rb HH.out.2.2.1).trans HO.out.2
    have hhb1 : w1.heap[w.heap.size]? = some (.cells (hC h).toArray 49 (0, 0)) := (hb1.block _ (by have := HQ.out.1; omega)).trans HQ.out.2
    have d0 : w1.cell? ⟨rb, ro, none⟩ = some v := by simpa [World.cell?, hrb1] using HH.out.2.2.2.1
    have d1 : w1.frozen? ⟨rb, ro, none⟩ = false := by simp [World.frozen?, hrb1]
    have g0 : w1.cell? ⟨w.heap.size, 0, none⟩ = some (.int .i64 h.1) := by simp [World.cell?, hhb1, hC]
    have g1 : w1.cell? ⟨w.heap.size, 1, none⟩ = some (.int .u64 h.2.1) := by simp [World.cell?, hhb1, hC]
    have g2 : w1.cell? ⟨w.heap.size, 2, none⟩ = some (.int .i64 h.2.2) := by simp [World.cell?, hhb1, hC]
    have l0 : rb < w1.heap.size := lt_of_get hrb1
    have l1 : w.heap.size < w1.heap.size := lt_of_get hhb1
    have hbW : Below w.heap.size w (w1.drew.alloc (.cells #[.int .i64 h.1, .int .u64 h.2.1, .int .i64 h.2.2] 49)) := (HB.out.trans (hb1.mono HB.out.size)).drew.alloc (by show w.heap.size ≤ w1.heap.size; omega) _
    obtain ⟨W1, hW1⟩ : ∃ W1, w1.drew.alloc (.cells #[.int .i64 h.1, .int .u64 h.2.1, .int .i64 h.2.2] 49) = W1 := ⟨_, rfl⟩
    have hv1 : W1.heap[w1.heap.size]? = some (.cells (hC h).toArray 49 (0, 0)) := by rw [← hW1]; exact heap_new w1.drew _
    have hz1 : W1.heap.size = w1.heap.size + 1 := by rw [← hW1]; show (w1.heap.push _).size = _; simp
    rw [hW1] at hbW
    have hoW := rowH_keep HO.out.1 hbW
    have hin := insert_calls B v l (lowH l h.1) h w1.heap.size W1 hoW (by omega) HH.out.1 hv1 (fun e => by have := (HO.out.1.lt _ e).2; omega) hl
    have HI : Hid (Calls Tryz.prog 67 #[v, .int .i64 (lowH l h.1 : Nat), .slice (some ⟨w1.heap.size, 0, none⟩) 1 1] (w1.drew.alloc (.cells #[.int .i64 h.1, .int .u64 h.2.1, .int .i64 h.2.2] 49)) fun e w' => ∃ v', e = .returned v' ∧ (w'.setCell ⟨rb, ro, none⟩ v').ownsRow B 49 3 v' (insH l (lowH l h.1) h).length (flatH (insH l (lowH l h.1) h)) ∧ Moved w (w'.setCell ⟨rb, ro, none⟩ v') rb ro cur T v v' gn ∧ w'.cell? ⟨rb, ro, none⟩ = some v ∧ w'.frozen? ⟨rb, ro, none⟩ = false ∧ rb < w'.heap.size) := by
      show Calls _ _ _ _ _
      rw [hW1]
      refine hin.mono ?_
      rintro e w2 ⟨v', rfl, o1, gr, fr⟩
      have hne' : v'.ownBlock ≠ some rb := fun e => by
        rcases fr rb e with h | h
        · exact HH.out.2.1 h
        · omega
      have hr2 : w2.heap[rb]? = some (.cells cur T (0, 0)) := by rw [gr.block rb (by omega) (fun e => HH.out.2.1 e.symm), hbW.block rb HH.out.2.2.1]; exact HO.out.2
      exact ⟨v', rfl, by rw [insH_len HH.out.1]; exact own_set o1 hne' _, moved_of hbW gr HO.out.2 HH.out.2.2.2.2 HH.out.2.1 fr, by simpa [World.cell?, hr2] using HH.out.2.2.2.1, by simp [World.frozen?, hr2], lt_of_get hr2⟩
    clear hb1 hrb1 hhb1 hbW hW1 hv1 hz1 hoW hin W1
    go_wp2_with fail
    go_region_law (first | (go_simp; go_at_call 67; refine HI.out.mono ?_; rintro e y1 ⟨v', rfl, y2, y3, y4, y5, y6⟩; obtain ⟨so, sc, hso⟩ := rowH_slice y2; subst hso; have Y1 : Hid (type_of% (And.intro y2 y3)) := ⟨y2, y3⟩; clear y2 y3))
    all_goals
      go_wp2
      exact bodyPost_ret (v := .tuple #[]) (by simp [results, Tryz.results54]) rfl ⟨rfl, _, by rw [ES.out]; exact Y1.out.1, Y1.out.2⟩
  | true =>
    obtain ⟨hlo, hle⟩ := HR.out hth
    have ES : Hid (setH l h = l.set (lowH l h.1) h) := by show _ = _; simp [setH, hth]
    rcases HO.out.1.2 with ⟨_, h0⟩ | ⟨g, c, cu, rfl, hBg, hg, hnc, hcm, hsz, htk⟩
    · omega
    have HG : Hid (B ≤ g ∧ w.heap[g]? = some (.cells cu 49 (0, 0)) ∧ l.length ≤ c ∧ c ≤ maxLen ∧ cu.size = c * 3 ∧ cu.toList.take (l.length * 3) = flatH l) := ⟨hBg, hg, hnc, hcm, hsz, htk⟩
    rw [hth] at HF
    go_enter Tryz.func54, Tryz.ntmps54
    go_wp2_with fail
    rw [HW.out]
    refine HF.out.mono ?_
    rintro e w1 ⟨rfl, hb1⟩
    have hbw : Below w.heap.size w w1 := HB.out.trans (hb1.mono HB.out.size)
    have HB1 : Hid (Below w.heap.size w w1) := hbw
    have hrb1 : w1.heap[rb]? = some (.cells cur T (0, 0)) := (hbw.block rb HH.out.2.2.1).trans HO.out.2
    have hhb1 : w1.heap[w.heap.size]? = some (.cells (hC h).toArray 49 (0, 0)) := (hb1.block _ (by have := HQ.out.1; omega)).trans HQ.out.2
    have hg1 : w1.heap[g]? = some (.cells cu 49 (0, 0)) := (hbw.block g (lt_of_get hg)).trans hg
    have d0 : w1.cell? ⟨rb, ro, none⟩ = some (.slice (some ⟨g, 0, none⟩) l.length c) := by simpa [World.cell?, hrb1] using HH.out.2.2.2.1
    have g0 : w1.cell? ⟨w.heap.size, 0, none⟩ = some (.int .i64 h.1) := by simp [World.cell?, hhb1, hC]
    have g1 : w1.cell? ⟨w.heap.size, 1, none⟩ = some (.int .u64 h.2.1) := by simp [World.cell?, hhb1, hC]
    have g2 : w1.cell? ⟨w.heap.size, 2, none⟩ = some (.int .i64 h.2.2) := by simp [World.cell?, hhb1, hC]
    have l0 : rb < w1.heap.size := lt_of_get hrb1
    have l1 : w.heap.size < w1.heap.size := lt_of_get hhb1
    have l2 : g < w1.heap.size := lt_of_get hg1
    have l3 : g ≠ w.heap.size := by have := lt_of_get hg; omega
    have l4 : g ≠ rb := fun e => HH.out.2.1 (by rw [e]; rfl)
    have HG1 : Hid (w1.heap[g]? = some (.cells cu 49 (0, 0)) ∧ w1.heap[rb]? = some (.cells cur T (0, 0))) := ⟨hg1, hrb1⟩
    obtain ⟨k, hk⟩ : ∃ k, lowH l h.1 = k := ⟨_, rfl⟩
    have k0 : w1.cell? ⟨g, k * 3, none⟩ = some cu[k * 3]! := by simp only [World.cell?, hg1]; exact (getElem?_bang cu _ (by omega))
    have k1 : w1.cell? ⟨g, k * 3 + 1, none⟩ = some cu[k * 3 + 1]! := by simp only [World.cell?, hg1]; exact (getElem?_bang cu _ (by omega))
    have k2 : w1.cell? ⟨g, k * 3 + 2, none⟩ = some cu[k * 3 + 2]! := by simp only [World.cell?, hg1]; exact (getElem?_bang cu _ (by omega))
    have q0 : w1.frozen? ⟨g, k * 3, none⟩ = false := by simp [World.frozen?, hg1]
    have q1 : w1.frozen? ⟨g, k * 3 + 1, none⟩ = false := by simp [World.frozen?, hg1]
    have q2 : w1.frozen? ⟨g, k * 3 + 2, none⟩ = false := by simp [World.frozen?, hg1]
    rw [hk] at hlo ⊢
    have i0 : (k : Int) < (l.length : Int) := by omega
    have i1 : (0 : Int) ≤ (k : Int) := by omega
    generalize cu[k * 3]! = z0 at k0
    generalize cu[k * 3 + 1]! = z1 at k1
    generalize cu[k * 3 + 2]! = z2 at k2
    clear hb1 hrb1 hhb1 hbw hg1 hBg hg hnc hcm hsz htk
    have HFIN : Hid (∀ W, W = (((w1.setCell ⟨g, k * 3, none⟩ (.int .i64 h.1)).setCell ⟨g, k * 3 + 1, none⟩ (.int .u64 h.2.1)).setCell ⟨g, k * 3 + 2, none⟩ (.int .i64 h.2.2)).drew → W.ownsRow B 49 3 (.slice (some ⟨g, 0, none⟩) l.length c) (setH l h).length (flatH (setH l h)) ∧ Moved w W rb ro cur T (.slice (some ⟨g, 0, none⟩) l.length c) (.slice (some ⟨g, 0, none⟩) l.length c) gn) := fun W hW => by
      obtain ⟨z0, z1, z2, z3, z4, z5⟩ := HG.out
      have e1 : (setH l h).length = l.length := by rw [ES.out, List.length_set]
      have hr : W.heap[g]? = some (.cells (((cu.setIfInBounds (k * 3) (.int .i64 h.1)).setIfInBounds (k * 3 + 1) (.int .u64 h.2.1)).setIfInBounds (k * 3 + 2) (.int .i64 h.2.2)) 49 (0, 0)) := by
        rw [hW]
        exact hsc_same _ (hsc_same _ (hsc_same _ HG1.out.1))
      have ho : ∀ j, j ≠ g → W.heap[j]? = w1.heap[j]? := fun j hj => by
        rw [hW]
        show (World.setCell _ _ _).heap[j]? = _
        rw [heap_setCell_other _ _ _ _ hj, heap_setCell_other _ _ _ _ hj, heap_setCell_other _ _ _ _ hj]
      refine ⟨⟨by rw [flatH_len], Or.inr ⟨g, c, _, by rw [e1], z0, hr, by rw [e1]; exact z2, z3, by simp [z4], ?_⟩⟩, ?_⟩
      · rw [e1, ES.out, hk, flatH_set]
        simp only [Array.toList_setIfInBounds, List.take_set, z5]
      · refine ⟨by rw [hW]; exact HB1.out.os, by rw [hW]; exact HB1.out.tape, by rw [hW]; exact HB1.out.output, by rw [hW]; have := HB1.out.size; simpa using this, fun j hj h1 h2 => ?_, ?_, fun j hj => Or.inl hj⟩
        · rw [ho j (fun e => h2 (by rw [e]; rfl)), HB1.out.block j hj]
        · rw [set_self (c := cur) HH.out.2.2.2.1, set_self HH.out.2.2.2.2, ho rb (Ne.symm l4)]
          exact HG1.out.2
    go_wp2_with fail
    go_region_held3 (fun w' => w'.cell? ⟨rb, ro, none⟩ = some (.slice (some ⟨g, 0, none⟩) l.length c) ∧ w'.cell? ⟨w.heap.size, 0, none⟩ = some (.int .i64 h.1) ∧ w'.cell? ⟨w.heap.size, 1, none⟩ = some (.int .u64 h.2.1) ∧ w'.cell? ⟨w.heap.size, 2, none⟩ = some (.int .i64 h.2.2)) (go_keep) (first | fail)
    go_wp2
    obtain ⟨f1, f2⟩ := HFIN.out _ rfl
    exact bodyPost_end (v := .tuple #[]) (by simp [results, Tryz.results54]) rfl ⟨rfl, _, f1, f2⟩
end Go.Proofs.YtbkclhaonbjobaaGreat
