/- the law CrcMemory, walked. -/
import Derived.Test.YtemdocnhdnhliabDoorCrQ
namespace Go.Proofs.YtemdocnhdnhliabDoor
open Go.RowKit Go.Extern Cr

attribute [local go_sem] Oper.semAt_some u32_signed u32_max

theorem eight_bv (l : List Nat) : bv l ++ [.int .u8 1, .int .u8 2, .int .u8 3, .int .u8 4, .int .u8 5, .int .u8 6, .int .u8 7, .int .u8 8] = bv (l ++ [1, 2, 3, 4, 5, 6, 7, 8]) := by rw [bv_append]; rfl

set_option maxRecDepth 100000 in
set_option maxHeartbeats 2000000 in
theorem memory_calls (lo : Option Addr) (lc : Nat) (l : List Nat) (w : World) (hf : HasFours w) (hg : 0 < w.heap.size) (hl : HasB w (.slice lo l.length lc) l) (hb : Bts l) (hm : l.length ≤ 140737488351232) (hcn : lo = none → lc = 0) :
    Calls Tryd.prog 3 #[.slice lo l.length lc] w fun e w' => e = .returned (.bool true) ∧ Below w.heap.size w w' := by
  obtain ⟨i0, hi, hz0, hz1, hz2⟩ := infoB
  have hsz : (Tryd.prog.info? 5).map (·.size) = some 1 := by rw [hi]; simp [hz1]
  obtain ⟨LX, hLX, hmx⟩ := make_roomB l.length 8 (by omega)
  have hmx' : ∀ w : World, (Instr.makeSlice 22 (.int .i64 (l.length : Int)) (.int .i64 ((l.length : Int) + 8))).run Tryd.prog w = .ok (.slice (some ⟨w.heap.size, 0, none⟩) l.length (l.length + 8)) (w.alloc (.cells LX.toArray 5)) := hmx
  have HF : Hid (∀ wx, Below w.heap.size w wx → HasFours wx ∧ 0 < wx.heap.size ∧ HasB wx (.slice lo l.length lc) l) := fun wx hx => ⟨fours_keep hf hg hx, Nat.lt_of_lt_of_le hg hx.size, hl.keep hx⟩
  have HC : Hid ((lo = none → lc = 0) ∧ Bts l) := ⟨hcn, hb⟩
  have HA := awake17_calls w hf hg
  have a1 : IntKind.i64.wrap ((l.length : Int) + 8) = (l.length : Int) + 8 := by rw [IntKind.wrap_i64] <;> omega
  clear hf hl hb hcn hmx
  go_enter Tryd.func3, Tryd.ntmps3
  go_wp2_with (first
    | (go_at_call 5; refine HA.mono ?_; rintro e w1 ⟨rfl, hb1⟩; have H1 : Hid (Below w.heap.size w w1) := hb1; have hs1 := hb1.size; clear hb1)
    | (refine wpList_copy_splice rfl _ _ 22 22 rfl 5 Tryd.underlying22 hsz (some ⟨w1.heap.size, 0, none⟩) lo l.length (l.length + 8) l.length lc rfl rfl w1.heap.size 0 LX 5 (by show (w1.heap.push _)[w1.heap.size]? = _; simp) (bv l) (by rw [bv_len1]; exact (Nat.min_self _).symm) (fun h0 => ⟨rfl, hasB_src ((Below.refl _ w1).alloc (Nat.le_refl _) _) (HF.out w1 H1.out).2.2 h0⟩) (by rw [bv_len1, hLX]; omega) (bv_one l) w.heap.size w (H1.out.alloc hs1 _) hs1 ?_; intro w2 hX hb2; have H2 : Hid (w2.heap[w1.heap.size]? = some (.cells (splice LX 0 (bv l)).toArray 5) ∧ Below w.heap.size w w2) := ⟨hX.out, hb2⟩; clear hX hb2)
    | (at_builtin; refine wpList_append_own_spare _ rfl _ _ 22 rfl w.heap.size 5 i0 1 Tryd.underlying22 hi hz1 w1.heap.size l.length (l.length + 8) (bv l) rfl (bown_alloc (bown_copied H2.out.1 hLX (by omega) hs1) _) ⟨w2.heap.size, 0, none⟩ 8 8 (bv [1, 2, 3, 4, 5, 6, 7, 8]) rfl rfl (hasB_cells (hasB_new w2 [1, 2, 3, 4, 5, 6, 7, 8] 8 (0, 0))) (bv_one _) (Nat.le_refl _) ?_; intro w3 hX hgr; have H3 : Hid (w3.ownsRow w.heap.size 5 1 (.slice (some ⟨w1.heap.size, 0, none⟩) (l.length + 8) (l.length + 8)) (l.length + 8) (bv (l ++ [1, 2, 3, 4, 5, 6, 7, 8])) ∧ Below w.heap.size w w3) := ⟨by rw [bv_append]; exact hX, bbelow_g (H2.out.2.alloc H2.out.2.size _) hgr (fun k e => by cases e; exact hs1)⟩; clear hX hgr))
  generalize hXe : w1.heap.size = X at *
  have HXB : Hid (∀ wx : World, wx.ownsRow w.heap.size 5 1 (.slice (some ⟨X, 0, none⟩) (l.length + 8) (l.length + 8)) (l.length + 8) (bv (l ++ [1, 2, 3, 4, 5, 6, 7, 8])) → HasB wx (.slice (some ⟨X, 0, none⟩) l.length (l.length + 8)) l) := fun wx h => by
    have h1 := bown_cut h (m := l.length) (by omega)
    rw [List.take_left] at h1
    exact hasB_own h1
  have hXl : X < w3.heap.size := (H3.out.1.lt X rfl).2
  refine (cSeal_fits (some ⟨X, 0, none⟩) (l.length + 8) l.length l rfl w3 (HF.out w3 H3.out.2).1 (HF.out w3 H3.out.2).2.1 (HXB.out w3 H3.out.1) HC.out.2 (by omega) (fun e => by cases e)).mono ?_
  rintro e w4 ⟨so, sc, S, rfl, hS, hown4, _, hSl, _, _, hb4⟩
  obtain ⟨ga, ca, hv, hga, hgl, _⟩ := bown_at hown4 (by omega)
  injection hv with hv1 _ hv3
  subst hv1 hv3
  have H4 : Hid ((w4.ownsRow w.heap.size 5 1 (.slice (some ⟨X, 0, none⟩) (l.length + 8) (l.length + 8)) (l.length + 8) (bv (l ++ [1, 2, 3, 4, 5, 6, 7, 8])) ∧ w4.ownsRow w.heap.size 5 1 (.slice (some ⟨ga, 0, none⟩) (l.length + 4) sc) (l.length + 4) (bv S)) ∧ Below w.heap.size w w4) := ⟨⟨bown_below H3.out.1 hb4, bown_base hown4 H3.out.2.size⟩, H3.out.2.trans (hb4.mono H3.out.2.size)⟩
  have HS : Hid (S = sealOf l ∧ S.length = l.length + 4) := ⟨hS, hSl⟩
  clear hS hSl hown4 hb4
  go_wp2_with fail
  refine (cSeal_fits (some ⟨X, 0, none⟩) (l.length + 8) l.length l rfl w4 (HF.out w4 H4.out.2).1 (HF.out w4 H4.out.2).2.1 (HXB.out w4 H4.out.1.1) HC.out.2 (by omega) (fun e => by cases e)).mono ?_
  rintro e w5 ⟨uo, uc, S', rfl, hS', hown5, _, _, _, _, hb5⟩
  obtain rfl : S' = S := hS'.trans HS.out.1.symm
  obtain ⟨gb, cb, hv, hgb, hgbl, _⟩ := bown_at hown5 (by omega)
  injection hv with hv1 _ hv3
  subst hv1 hv3
  have H5 : Hid (M3 w w5 l.length X ga gb sc uc (l ++ [1, 2, 3, 4, 5, 6, 7, 8]) S' S') := ⟨H4.out.2.trans (hb5.mono H4.out.2.size), bown_below H4.out.1.1 hb5, bown_below H4.out.1.2 hb5, bown_base hown5 H4.out.2.size, by omega, by omega, by omega⟩
  clear hS' hown5 hb5 H4 H3
  go_wp2_with fail
  refine (cSum_calls (some ⟨X, 0, none⟩) (l.length + 8) l w5 (HF.out w5 H5.out.below).1 (HXB.out w5 H5.out.x) HC.out.2 (by omega)).mono ?_
  rintro e w6 ⟨rfl, rfl⟩
  generalize upd 0 l = su
  go_wp2_with fail
  refine (cFits_calls (some ⟨X, 0, none⟩) (l.length + 8) l w6 (HF.out w6 H5.out.below).1 (HF.out w6 H5.out.below).2.1 (HXB.out w6 H5.out.x) HC.out.2 (by omega) (by omega)).mono ?_
  rintro e w7 ⟨rfl, hb7⟩
  have H7 : Hid (M3 w w7 l.length X ga gb sc uc (l ++ [1, 2, 3, 4, 5, 6, 7, 8]) S' S') := H5.out.keep hb7
  clear hb7 H5
  generalize fits l = fl
  have hs1' : ∀ wx, (Instr.slice 22 (.slice (some ⟨X, 0, none⟩) (l.length + 8) (l.length + 8)) none (some (.int .i64 (l.length : Int))) none).run Tryd.prog wx = .ok (.slice (some ⟨X, 0, none⟩) l.length (l.length + 8)) wx := fun wx => slice_uptoB X 0 (l.length + 8) (l.length + 8) l.length (by omega) (by omega) wx
  have hs2' : ∀ wx, (Instr.slice 22 (.slice (some ⟨X, 0, none⟩) (l.length + 8) (l.length + 8)) (some (.int .i64 (l.length : Int))) none none).run Tryd.prog wx = .ok (.slice (some ⟨X, l.length, none⟩) 8 8) wx := fun wx => by
    have h := slice_fromB X (l.length + 8) (l.length + 8) l.length (by omega) (by omega) wx
    rw [show l.length + 8 - l.length = 8 by omega] at h
    exact h
  go_wp2_with fail
  refine (kSame_calls (some ⟨X, 0, none⟩) lo (l.length + 8) lc l w7 (HXB.out w7 H7.out.x) (HF.out w7 H7.out.below).2.2).mono ?_
  rintro e w8 ⟨rfl, rfl⟩
  go_wp2_with fail
  have hE : HasB (w8.alloc (.cells #[.int .u8 1, .int .u8 2, .int .u8 3, .int .u8 4, .int .u8 5, .int .u8 6, .int .u8 7, .int .u8 8] 5)) (.slice (some ⟨X, l.length, none⟩) 8 8) [1, 2, 3, 4, 5, 6, 7, 8] := by
    have h := hasB_end (m := l.length) (bown_alloc H7.out.x (.cells #[.int .u8 1, .int .u8 2, .int .u8 3, .int .u8 4, .int .u8 5, .int .u8 6, .int .u8 7, .int .u8 8] 5)) 8
    rw [List.drop_left] at h
    exact h
  refine (kSame_calls (some ⟨X, l.length, none⟩) (some ⟨w8.heap.size, 0, none⟩) 8 8 [1, 2, 3, 4, 5, 6, 7, 8] _ hE (hasB_new w8 [1, 2, 3, 4, 5, 6, 7, 8] 8 (0, 0))).mono ?_
  rintro e w9 ⟨rfl, hw9⟩
  have H9 : Hid (M3 w w9 l.length X ga gb sc uc (l ++ [1, 2, 3, 4, 5, 6, 7, 8]) S' S') := by rw [hw9]; exact H7.out.keep ((Below.refl _ w8).alloc (Nat.le_refl _) _)
  clear hw9 hE H7 hs1' hs2' a1 hmx' hLX hsz
  go_wp2_with fail
  go_loopw [50] (fun nv wr => ∃ (k : Nat) (F : List Nat), k ≤ l.length + 8 ∧ nv = .int .i64 k ∧ F.length = l.length + 8 ∧ M3 w wr l.length X ga gb sc uc F S' S') (fun nv _ => l.length + 8 - (intOf nv).toNat)
  case atStart => exact ⟨0, l ++ [1, 2, 3, 4, 5, 6, 7, 8], by omega, rfl, by simp, H9.out⟩
  case round =>
    obtain ⟨k, F, hk, rfl, hF, hM⟩ := hrel
    have HM : Hid (M3 w wr l.length X ga gb sc uc F S' S') := hM
    by_cases hlt : k < l.length + 8
    · obtain ⟨g', c', hv, _, hgl', hfz, hcell⟩ := bown_at hM.x (by omega)
      injection hv with hv1 _ _
      injection hv1 with hv1
      injection hv1 with hv1
      subst hv1
      have c0 := hcell k _ (List.getElem?_eq_getElem (by omega : k < F.length))
      have f0 := hfz k
      have i1 : (k : Int) < (l.length : Int) + 8 := by omega
      have i2 : (0 : Int) ≤ (k : Int) := by omega
      clear hM hcell hfz
      go_wp2_with fail
      exact ⟨⟨k + 1, F.set k 238, by omega, by rw [show (k : Int) + 1 = ((k + 1 : Nat) : Int) by omega], by rw [List.length_set]; exact hF, HM.out.setX k 238⟩, by simp only [intOf]; omega⟩
    · obtain rfl : k = l.length + 8 := by omega
      clear hM
      have i1 : ¬ ((l.length : Int) + 8 < (l.length : Int) + 8) := by omega
      have HFl : Hid (F.length = l.length + 8) := hF
      clear hF
      go_wp2_with fail
      go_loopw [59] (fun nv wx => ∃ (k : Nat) (A : List Nat), k ≤ l.length + 4 ∧ nv = .int .i64 k ∧ A.length = l.length + 4 ∧ M3 w wx l.length X ga gb sc uc F A S') (fun nv _ => l.length + 4 - (intOf nv).toNat)
      case atStart => exact ⟨0, S', by omega, rfl, HS.out.2, HM.out⟩
      case round =>
        obtain ⟨k, A, hk, rfl, hA, hM⟩ := hrel
        have HM2 : Hid (M3 w wr l.length X ga gb sc uc F A S') := hM
        by_cases hlt : k < l.length + 4
        · obtain ⟨g', c', hv, _, hgl', hfz, hcell⟩ := bown_at hM.a (by omega)
          injection hv with hv1 _ hv3
          injection hv1 with hv1
          injection hv1 with hv1
          subst hv1 hv3
          have c0 := hcell k _ (List.getElem?_eq_getElem (by omega : k < A.length))
          have f0 := hfz k
          have i1 : (k : Int) < (l.length : Int) + 4 := by omega
          have i2 : (0 : Int) ≤ (k : Int) := by omega
          clear hM hcell hfz
          go_wp2_with fail
          exact ⟨⟨k + 1, A.set k 221, by omega, by rw [show (k : Int) + 1 = ((k + 1 : Nat) : Int) by omega], by rw [List.length_set]; exact hA, HM2.out.setA k 221⟩, by simp only [intOf]; omega⟩
        · obtain rfl : k = l.length + 4 := by omega
          clear hM
          have i1 : ¬ ((l.length : Int) + 4 < (l.length : Int) + 4) := by omega
          have HAl : Hid (A.length = l.length + 4) := hA
          clear hA
          go_wp2_with (at_builtin; refine wpList_append_B rfl _ _ rfl w.heap.size (.slice (some ⟨ga, 0, none⟩) (l.length + 4) sc) A rfl (by rw [HAl.out]; exact bown_alloc HM2.out.a _) (some ⟨wr.heap.size, 0, none⟩) 2 [1, 2] rfl (hasB_new wr [1, 2] 2 (0, 0)) (fun e => by cases e) (by rw [HAl.out]; show l.length + 4 + 2 ≤ _; omega) (by have := HM2.out.below.size; simp; omega) ?_; intro v9 wz hown9 hgr9; have H10 : Hid (HasB wz (.slice (some ⟨gb, 0, none⟩) S'.length uc) S' ∧ Below w.heap.size w wz) := (by refine ⟨?_, bbelow_g (HM2.out.below.alloc HM2.out.below.size _) hgr9 (fun k e => by cases e; exact (HM2.out.a.lt ga rfl).1)⟩; have h := bown_keep (bown_alloc HM2.out.b (.cells #[.int .u8 1, .int .u8 2] 5)) (w' := wz) (fun k hk => hgr9.block k ((bown_alloc HM2.out.b _).lt k hk).2 (fun e => by have e1 := Option.some.inj e; have e2 := Option.some.inj hk; exact HM2.out.ab (e1.symm.trans e2.symm))); rw [← HS.out.2] at h; exact hasB_own h); have H11 : Hid (wz.ownsRow w.heap.size 5 1 v9 (l.length + 4 + 2) (bv (A ++ [1, 2]))) := (by rw [List.length_append, HAl.out] at hown9; exact hown9); clear hown9 hgr9; obtain ⟨ro, rc, hv9⟩ := bown_slice H11.out; subst hv9)
          have i5 : (l.length : Int) + 4 + 2 = (l.length : Int) + 6 := by omega
          refine (kSeal_calls lo lc l wz (HF.out wz H10.out.2).2.2 HC.out.2 (by omega) HC.out.1).mono ?_
          rintro e wy ⟨to, tc, rfl, hownY, hbY⟩
          have hB : HasB wy (.slice to S'.length tc) S' := by
            have h := hownY
            rw [← HS.out.1, ← HS.out.2] at h
            exact hasB_own h
          have H12 : Hid ((HasB wy (.slice (some ⟨gb, 0, none⟩) S'.length uc) S' ∧ HasB wy (.slice to S'.length tc) S') ∧ Below w.heap.size w wy) := ⟨⟨H10.out.1.keep hbY, hB⟩, H10.out.2.trans (hbY.mono H10.out.2.size)⟩
          clear hownY hbY hB
          have hSm := kSame_calls (some ⟨gb, 0, none⟩) to uc tc S' wy H12.out.1.1 H12.out.1.2
          rw [HS.out.2] at hSm
          go_wp2_with fail
          refine hSm.mono ?_
          rintro e wv ⟨rfl, rfl⟩
          go_wp2_with fail
          go_ret
          exact ⟨rfl, H12.out.2⟩
end Go.Proofs.YtemdocnhdnhliabDoor
