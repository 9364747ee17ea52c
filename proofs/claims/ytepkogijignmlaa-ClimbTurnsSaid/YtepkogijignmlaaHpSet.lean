/- Set and Push: the thing is in with this key, with the lesser key. -/
import Derived.Test.YtepkogijignmlaaHpOps
namespace Go.Proofs.Ytepkogijignmlaa.Hp
open Go.RowKit

attribute [local go_sem] Oper.semAt_some

/-- where one is not in there are fewer things than ids. -/
theorem Heap.fewer {ps : List Th} {wh : List Int} {f : Int → Option Int} (h : Heap ps wh f) {d : Nat} (hd : wh[d]? = some 0) : ps.length < wh.length := by
  have hdl := (List.getElem?_eq_some_iff.1 hd).1
  have h1 := pigeon wh.length (d :: ps.map fun t => t.2.toNat) (by
    refine List.nodup_cons.2 ⟨fun hm => ?_, ?_⟩
    · obtain ⟨t, ht, e⟩ := List.mem_map.1 hm
      obtain ⟨i, hi, e'⟩ := List.getElem_of_mem ht
      obtain ⟨a0, a1, a2⟩ := h.idr i ps[i] (List.getElem?_eq_getElem hi)
      rw [e', e, hd] at a2
      have := Option.some.inj a2
      omega
    · rw [List.Nodup, List.pairwise_iff_getElem]
      intro i j hi hj hij e
      simp only [List.length_map] at hi hj
      simp only [List.getElem_map] at e
      obtain ⟨a0, a1, a2⟩ := h.idr i ps[i] (List.getElem?_eq_getElem hi)
      obtain ⟨b0, b1, b2⟩ := h.idr j ps[j] (List.getElem?_eq_getElem hj)
      rw [e, b2] at a2
      have := Option.some.inj a2
      omega) (fun x hx => by
    rcases List.mem_cons.1 hx with rfl | hx
    · exact hdl
    · obtain ⟨t, ht, rfl⟩ := List.mem_map.1 hx
      obtain ⟨i, hi, e⟩ := List.getElem_of_mem ht
      obtain ⟨a0, a1, _⟩ := h.idr i ps[i] (List.getElem?_eq_getElem hi)
      rw [e] at a0 a1
      omega)
  simp at h1
  omega

section
variable {w : World} {hb wb n : Nat} {sv : Value} {f : Int → Option Int}

set_option maxRecDepth 100000 in
set_option maxHeartbeats 1000000 in
theorem set_in (h : IsHeap w hb wb n sv f) (d : Nat) (hd : d < n) (k k0 : Int) (hf : f d = some k0) : Calls Try.prog 74 #[.pointer (some ⟨hb, 0, none⟩), .int .u32 d, .int .u64 k] w fun e w' => e = .returned .nilIface ∧ ∃ sv', IsHeap w' hb wb n sv' (upd f d (some k)) ∧ Fr hb wb sv sv' w w' := by
  obtain ⟨ps, wh, hM, hH⟩ := h
  have hlen := hM.len
  have hbig := hM.big
  obtain ⟨i, y, h0, hy, hyd, hk⟩ : ∃ (i : Nat) (y : Th), wh[d]? = some ((i : Int) + 1) ∧ ps[i]? = some y ∧ y.2 = d ∧ f d = some y.1 := by
    rcases hH.back d (by omega) with ⟨_, h1⟩ | h1
    · rw [hf] at h1; cases h1
    · exact h1
  have hil := (List.getElem?_eq_some_iff.1 hy).1
  have hfew := hH.few
  have HP : Hid (Calls Try.prog 76 #[.pointer (some ⟨hb, 0, none⟩), .int .u32 d] w fun e w' => e = .returned (.tuple #[.int .i64 i, .bool true]) ∧ w' = w) := place_in hM d i h0 (by omega)
  obtain ⟨c0, c1, _, _⟩ := hM.cells
  obtain ⟨g, cap, e, hc1, hc2, hgl, _, _, q0, q1, _, _⟩ := hM.thing hy
  subst e
  have hh := hH.hole hy
  rw [hyd] at hh
  have HS : Hid (Calls Try.prog 77 #[.pointer (some ⟨hb, 0, none⟩), .int .i64 i, .agg #[.int .u64 k, .int .u32 (d : Int)]] w fun e w' => e = .returned (.tuple #[]) ∧ ∃ (ps' : List Th) (wh' : List Int), Heap ps' wh' (upd f d (some k)) ∧ Mem w' hb wb n (.slice (some ⟨g, 0, none⟩) ps.length cap) ps' wh' ∧ ps'.length = ps.length ∧ Fr hb wb (.slice (some ⟨g, 0, none⟩) ps.length cap) (.slice (some ⟨g, 0, none⟩) ps.length cap) w w') := settle_calls k f hM rfl (by omega) hh
  have b0 : (0 : Int) ≤ (d : Int) := by omega
  have b1 : (d : Int) < (n : Int) := by omega
  unfold maxLen at hc2
  clear hM hH h0 hy hk hf hfew hyd hh q0 q1
  go_enter Try.func74, Try.ntmps74
  go_wp2_with fail
  refine HP.out.mono ?_
  rintro e w1 ⟨rfl, hw1⟩
  subst hw1
  go_wp2_with fail
  refine HS.out.mono ?_
  rintro e w2 ⟨rfl, hS⟩
  have HS2 : Hid _ := hS
  clear hS
  go_wp2
  go_ret
  obtain ⟨ps', wh', h1, h2, h3, h4⟩ := HS2.out
  exact ⟨rfl, _, ⟨ps', wh', h2, h1⟩, h4⟩

set_option maxRecDepth 100000 in
set_option maxHeartbeats 1000000 in
theorem set_out (h : IsHeap w hb wb n sv f) (d : Nat) (hd : d < n) (k : Int) (hf : f d = none) : Calls Try.prog 74 #[.pointer (some ⟨hb, 0, none⟩), .int .u32 d, .int .u64 k] w fun e w' => e = .returned .nilIface ∧ ∃ sv', IsHeap w' hb wb n sv' (upd f d (some k)) ∧ Fr hb wb sv sv' w w' := by
  obtain ⟨i0, hi, hz0, hz1, hz2⟩ : ∃ i, Try.prog.info? 145 = some i ∧ i.zero = some (.agg #[.int .u64 0, .int .u32 0]) ∧ i.size = 2 ∧ i.bytes = 16 := by
    have h := Try.info75
    cases hi : Try.prog.info? 145 with
    | none => rw [hi] at h; cases h
    | some i => rw [hi] at h; simp at h; exact ⟨i, rfl, h.1, h.2.1, h.2.2⟩
  obtain ⟨ps, wh, hM, hH⟩ := h
  have hlen := hM.len
  have hbig := hM.big
  have h0 : wh[d]? = some 0 := by
    rcases hH.back d (by omega) with ⟨h0, _⟩ | ⟨i, y, _, _, _, h1⟩
    · exact h0
    · rw [hf] at h1; cases h1
  have hfew := hH.fewer h0
  have HP : Hid (Calls Try.prog 76 #[.pointer (some ⟨hb, 0, none⟩), .int .u32 d] w fun e w' => e = .returned (.tuple #[.int .i64 0, .bool false]) ∧ w' = w) := place_out hM d h0
  obtain ⟨c0, c1, z0, z1⟩ := hM.cells
  obtain ⟨so, sc, hsv, hs1, hs2⟩ := hM.shape
  have HM : Hid (Mem w hb wb n sv ps wh) := hM
  have HH : Hid (Heap ps wh f) := hH
  have H0 : Hid (wh[d]? = some 0) := h0
  have hlh : hb < w.heap.size := lt_of_get hM.box
  have hlw : wb < w.heap.size := lt_of_get hM.whr
  have hsz : ps.length + 1 ≤ 65536 := by omega
  have b0 : (0 : Int) ≤ (d : Int) := by omega
  have b1 : (d : Int) < (n : Int) := by omega
  have HSV : Hid (sv = .slice so ps.length sc) := hsv
  rw [hsv] at c0
  have HG : Hid (∀ (g cap : Nat) (w2 : World), w2.ownsRow 0 145 2 (.slice (some ⟨g, 0, none⟩) (ps.length + 1) cap) (ps.length + 1) (flatT ps ++ [.int .u64 0, .int .u32 0]) → (w.alloc (.cells #[.int .u64 0, .int .u32 0] 145)).grownBy w2 (Value.slice so ps.length sc).ownBlock → ((Value.slice so ps.length sc).ownBlock = some g ∨ g = w.heap.size + 1) →
      (w2.cell? ⟨hb, 0, none⟩ = some (.slice so ps.length sc) ∧ w2.frozen? ⟨hb, 0, none⟩ = false) ∧ hb < w2.heap.size ∧
      Calls Try.prog 77 #[.pointer (some ⟨hb, 0, none⟩), .int .i64 (ps.length : Nat), .agg #[.int .u64 k, .int .u32 (d : Int)]] (w2.setCell ⟨hb, 0, none⟩ (.slice (some ⟨g, 0, none⟩) (ps.length + 1) cap)) fun e w' => e = .returned (.tuple #[]) ∧ ∃ sv', IsHeap w' hb wb n sv' (upd f d (some k)) ∧ Fr hb wb sv sv' w w') := fun g cap w2 hown hgrow hat => by
    have hMA := hM.below ((Below.refl _ w).alloc (Nat.le_refl _) (.cells #[.int .u64 0, .int .u32 0] 145))
    have hnb : ∀ k, k < w.heap.size + 1 → (k = hb ∨ k = wb) → w2.heap[k]? = (w.alloc (.cells #[.int .u64 0, .int .u32 0] 145)).heap[k]? := fun k hk hkk => hgrow.block k (by simpa using hk) (fun e => by
      rw [← hsv] at e
      rcases hkk with rfl | rfl
      · exact hM.hp e.symm
      · exact hM.wp e.symm)
    have hk2 : w2.heap[hb]? = some (.cells #[sv, .slice (some ⟨wb, 0, none⟩) n n] 134) := (hnb hb (by omega) (Or.inl rfl)).trans hMA.box
    have hgo : ∀ k, some g = some k → k < w.heap.size → sv.ownBlock = some k := fun k e hk => by
      rcases hat with h | h
      · rw [hsv, h, e]
      · cases e; omega
    have hgh : g ≠ hb := fun e => hM.hp (hgo hb (by rw [e]) hlh)
    have hgw : g ≠ wb := fun e => hM.wp (hgo wb (by rw [e]) hlw)
    have hr : w2.ownsRow 0 145 2 (.slice (some ⟨g, 0, none⟩) (ps ++ [((0 : Int), (0 : Int))]).length cap) (ps ++ [((0 : Int), (0 : Int))]).length (flatT (ps ++ [((0 : Int), (0 : Int))])) := by
      rw [List.length_append, flatT_append]
      exact hown
    have hM2 : Mem (w2.setCell ⟨hb, 0, none⟩ (.slice (some ⟨g, 0, none⟩) (ps ++ [((0 : Int), (0 : Int))]).length cap)) hb wb n (.slice (some ⟨g, 0, none⟩) (ps ++ [((0 : Int), (0 : Int))]).length cap) (ps ++ [((0 : Int), (0 : Int))]) wh := by
      have hk : ∀ k, k ≠ hb → (w2.setCell ⟨hb, 0, none⟩ (.slice (some ⟨g, 0, none⟩) (ps ++ [((0 : Int), (0 : Int))]).length cap)).heap[k]? = w2.heap[k]? := fun k hk => heap_setCell_other _ _ _ _ hk
      refine ⟨?_, ?_, (hk wb (Ne.symm hM.hw)).trans ((hnb wb (by omega) (Or.inr rfl)).trans hMA.whr), hM.len, hM.big, hM.hw, fun e => hgh (Option.some.inj e), fun e => hgw (Option.some.inj e)⟩
      · rw [heap_setCell_same _ hk2]; rfl
      · obtain ⟨r1, r2⟩ := hr
        refine ⟨r1, ?_⟩
        rcases r2 with r2 | ⟨g', cap', cur, e, hb', hh, r⟩
        · exact Or.inl r2
        · refine Or.inr ⟨g', cap', cur, e, hb', (hk g' (fun e' => ?_)).trans hh, r⟩
          cases e
          exact hgh e'
    have hlen1 : (ps ++ [((0 : Int), (0 : Int))]).length = ps.length + 1 := by simp
    rw [hlen1] at hM2
    refine ⟨⟨?_, ?_⟩, lt_of_get hk2, (settle_calls k f hM2 hlen1 (by omega) (hH.room h0 ((0 : Int), (0 : Int)))).mono ?_⟩
    · rw [← hsv]; exact (pair_cells hk2).1
    · exact (cells_at hk2 0).2
    · rintro e w' ⟨he, ps', wh', h1, h2, h3, h4⟩
      have hF0 : Fr hb wb sv (.slice (some ⟨g, 0, none⟩) (ps.length + 1) cap) w (w2.setCell ⟨hb, 0, none⟩ (.slice (some ⟨g, 0, none⟩) (ps.length + 1) cap)) := by
        refine ⟨hgrow.os, hgrow.tape, hgrow.output, by have := hgrow.size; simp at this ⊢; omega, fun j hj g1 g2 g3 => ?_, fun j hj e => hgo j e hj⟩
        rw [heap_setCell_other _ _ _ _ g1]
        exact (hgrow.block j (by simp; omega) (by rw [← hsv]; exact g3)).trans (Below.heap_alloc _ _ _ hj)
      exact ⟨he, _, ⟨ps', wh', h2, h1⟩, hF0.trans h4⟩
  unfold maxLen at hs2
  clear hM hH h0 hf hfew hsv
  go_enter Try.func74, Try.ntmps74
  go_wp2_with fail
  refine HP.out.mono ?_
  rintro e w1 ⟨rfl, hw1⟩
  subst hw1
  go_wp2_with (at_builtin; refine wpList_append_lies _ (by rfl) _ _ 132 (by rfl) 0 145 i0 (.agg #[.int .u64 0, .int .u32 0]) 2 16 Try.underlying132 hi hz0 hz1 hz2 rfl (by decide) (.slice so ps.length sc) ps.length (flatT ps) (by rfl) ?hown ⟨w1.heap.size, 0, none⟩ 1 1 [.int .u64 0, .int .u32 0] (by rfl) rfl ?hnews ?hone (by decide) ?h63 ?hby (Nat.zero_le _) (w1.heap.size + 1) (by simp) ?_; (case hown => (rw [← HSV.out]; exact (HM.out.below ((Below.refl _ _).alloc (Nat.le_refl _) _)).row)); (case hnews => intro j x hx; rcases j with _ | _ | j <;> simp at hx <;> subst hx <;> simp [Addr.add]); (case hone => intro x hx; simp at hx; rcases hx with rfl | rfl <;> rfl); (case h63 => unfold maxLen; omega); (case hby => omega); intro g cap w2 hown hgrow hat hlt; have HGW : Hid _ := HG.out g cap w2 hown hgrow hat; obtain ⟨⟨q0, q1⟩, q2, _⟩ := HGW.out; clear hown hgrow hat hlt)
  refine HGW.out.2.2.mono ?_
  rintro e w3 ⟨rfl, hS⟩
  have HS2 : Hid _ := hS
  clear hS
  go_wp2
  go_ret
  exact ⟨rfl, HS2.out⟩

theorem set_calls (h : IsHeap w hb wb n sv f) (d : Nat) (hd : d < n) (k : Int) : Calls Try.prog 74 #[.pointer (some ⟨hb, 0, none⟩), .int .u32 d, .int .u64 k] w fun e w' => e = .returned .nilIface ∧ ∃ sv', IsHeap w' hb wb n sv' (upd f d (some k)) ∧ Fr hb wb sv sv' w w' := by
  cases hf : f d with
  | none => exact set_out h d hd k hf
  | some k0 => exact set_in h d hd k k0 hf

end
end Go.Proofs.Ytepkogijignmlaa.Hp
