/- csr.Graph at right arrays: the normal graph, in new memory. -/
import Derived.Test.YtgfmalimnbgdeaaCsrRow
import Derived.OwnWalk
namespace Go.Proofs.Ytgfmalimnbgdeaa
open Go.RowKit Go.Extern

attribute [local go_sem] Oper.semAt_some

theorem rowOf_all (zs : List (Int × Int × Int)) (v : Nat) : zs.take (firstAt zs v) ++ rowOf zs v (firstAt zs (v + 1)) = zs.take (firstAt zs (v + 1)) := by
  unfold rowOf
  have h := firstAt_mono zs (show v ≤ v + 1 by omega)
  conv => rhs; rw [← List.take_append_drop (firstAt zs v) (zs.take (firstAt zs (v + 1)))]
  rw [List.take_take, Nat.min_eq_left h]
/-- a row of arcs stays where only a block of another type is written. -/
theorem own_far {w w' : World} {base base' n b : Nat} {v : Value} {xs : List Value} {c : Array Value} {T : TypeId} (h : w.ownsRow base 46 3 v n xs) (hb : w.heap[b]? = some (.cells c T)) (hT : T ≠ 46) (hk : ∀ g, g ≠ b → w'.heap[g]? = w.heap[g]?) (hbb : base' ≤ base) : w'.ownsRow base' 46 3 v n xs := by
  have hne := own_not_box h hb hT
  obtain ⟨h1, h2⟩ := h
  refine ⟨h1, ?_⟩
  rcases h2 with h2 | ⟨g, cap, cur, e, hbs, hh, r⟩
  · exact Or.inl h2
  · subst e
    exact Or.inr ⟨g, cap, cur, rfl, by omega, (hk g (fun e => hne (by rw [e]; rfl))).trans hh, r⟩

set_option maxRecDepth 100000 in
set_option maxHeartbeats 4000000 in
theorem graph_good (n : Nat) (zs : List (Int × Int × Int)) (fo to wo : Option Addr) (fc tc wc : Nat) (w : World) (hz : Fine n zs) (h : CsrIn w n zs fo to wo fc tc wc) :
    Calls Try.prog 10 #[.agg #[.slice fo (n + 1) fc, .slice to zs.length tc, .slice wo zs.length wc]] w fun e w' => ∃ lo lc, e = .returned (.tuple #[.agg #[.int .i64 n, .slice lo zs.length lc], .nilIface]) ∧ w'.ownsRow w.heap.size 46 3 (.slice lo zs.length lc) zs.length (flatC zs) ∧ Below w.heap.size w w' := by
  obtain ⟨i0, hi, hz0, hz1, hz2⟩ : ∃ i, Try.prog.info? 46 = some i ∧ i.zero = some (.agg #[.int .i64 0, .int .i64 0, .int .i64 0]) ∧ i.size = 3 ∧ i.bytes = 24 := by
    have h := Try.infoC
    cases hi : Try.prog.info? 46 with
    | none => rw [hi] at h; cases h
    | some i => rw [hi] at h; simp at h; exact ⟨i, rfl, h.1, h.2.1, h.2.2⟩
  have hN := hz.few
  have hM := hz.short
  obtain ⟨W0, hW0⟩ : ∃ W0, (w.alloc (.cells #[.slice fo (n + 1) fc, .slice to zs.length tc, .slice wo zs.length wc] 28)).alloc (.cells #[.int .i64 0, .slice none 0 0] 24) = W0 := ⟨_, rfl⟩
  have HW0 : Hid ((w.alloc (.cells #[.slice fo (n + 1) fc, .slice to zs.length tc, .slice wo zs.length wc] 28)).alloc (.cells #[.int .i64 0, .slice none 0 0] 24) = W0) := hW0
  have hB0 : Below w.heap.size w W0 := by rw [← hW0]; exact ((Below.refl _ w).alloc (Nat.le_refl _) _).alloc (by simp) _
  have k0 : W0.heap[w.heap.size]? = some (.cells #[.slice fo (n + 1) fc, .slice to zs.length tc, .slice wo zs.length wc] 28) := by rw [← hW0, Below.heap_alloc _ _ _ (by simp)]; exact heap_new _ _
  have k1 : W0.heap[w.heap.size + 1]? = some (.cells #[.int .i64 0, .slice none 0 0] 24) := by
    have h := heap_new (w.alloc (.cells #[.slice fo (n + 1) fc, .slice to zs.length tc, .slice wo zs.length wc] 28)) (.cells #[.int .i64 0, .slice none 0 0] 24)
    rw [hW0] at h
    simpa using h
  have HK : Hid (∀ wx, Below W0.heap.size W0 wx → (wx.cell? ⟨w.heap.size, 0, none⟩ = some (.slice fo (n + 1) fc) ∧ wx.cell? ⟨w.heap.size, 1, none⟩ = some (.slice to zs.length tc) ∧ wx.cell? ⟨w.heap.size, 2, none⟩ = some (.slice wo zs.length wc)) ∧ w.heap.size < wx.heap.size ∧ w.heap.size + 1 < wx.heap.size ∧ CsrIn wx n zs fo to wo fc tc wc ∧ Below w.heap.size w wx ∧ wx.heap[w.heap.size + 1]? = some (.cells #[.int .i64 0, .slice none 0 0] 24)) := fun wx hx => by
    have g0 := (hx.block _ (lt_of_get k0)).trans k0
    have g1 := (hx.block _ (lt_of_get k1)).trans k1
    have hb := hB0.trans (hx.mono hB0.size)
    exact ⟨box3 g0, lt_of_get g0, lt_of_get g1, h.keep hb, hb, g1⟩
  have HCK : Hid (∀ wx, Below W0.heap.size W0 wx → Calls Try.prog 11 #[.agg #[.slice fo (n + 1) fc, .slice to zs.length tc, .slice wo zs.length wc]] wx fun e w' => e = .returned .nilIface ∧ Below W0.heap.size W0 w') := fun wx hx =>
    (check_good n zs fo to wo fc tc wc wx hz (HK.out wx hx).2.2.2.1).mono fun e w' ⟨he, hb⟩ => ⟨he, hx.trans (hb.mono hx.size)⟩
  have HNC : Hid (∀ wx, Calls Try.prog 32 #[.agg #[.slice fo (n + 1) fc, .slice to zs.length tc, .slice wo zs.length wc]] wx fun e w' => e = .returned (.int .i64 n) ∧ Below wx.heap.size wx w') := fun wx =>
    nodes_calls fo to wo n fc zs.length tc zs.length wc (by omega) wx
  have HAP : Hid (∀ (wB wx : World), Below W0.heap.size W0 wB → Below wB.heap.size wB wx → ∀ (lo : Option Addr) (lc v : Nat), v < n → wx.ownsRow wB.heap.size 46 3 (.slice lo (zs.take (firstAt zs v)).length lc) (zs.take (firstAt zs v)).length (flatC (zs.take (firstAt zs v))) →
      Calls Try.prog 33 #[.agg #[.slice fo (n + 1) fc, .slice to zs.length tc, .slice wo zs.length wc], .slice lo (zs.take (firstAt zs v)).length lc, .int .i64 v] wx fun e w' => ∃ av, e = .returned av ∧ w'.ownsRow wB.heap.size 46 3 av (zs.take (firstAt zs (v + 1))).length (flatC (zs.take (firstAt zs (v + 1)))) ∧ Below wB.heap.size wB w') := fun wB wx hB hx lo lc v hv hO => by
    have h := appendRow_good n zs fo to wo fc tc wc wB wx hz (HK.out wB hB).2.2.2.1 hx lo lc (zs.take (firstAt zs v)) hO (by rw [List.length_take]; omega) v hv
    rw [rowOf_all] at h
    exact h
  have HZ : Hid (firstAt zs 0 = 0 ∧ firstAt zs n = zs.length) := ⟨hz.zero, hz.top⟩
  clear h hW0 hB0 k0 k1 hz
  go_enter Try.func10, Try.ntmps10
  go_wp2_with fail
  rw [HW0.out]
  refine (HCK.out W0 (Below.refl _ _)).mono ?_
  rintro e w1 ⟨rfl, hb1⟩
  have HB1 : Hid (Below W0.heap.size W0 w1) := hb1
  obtain ⟨⟨c0, c1, c2⟩, cs, cr, _, _, _⟩ := HK.out w1 hb1
  clear hb1
  have HR : Hid (w1.heap.size ≤ w1.heap.size) := Nat.le_refl _
  go_wp2_with (first
    | (refine wpList_make_own _ rfl _ _ 22 rfl w1.heap.size 46 i0 (.agg #[.int .i64 0, .int .i64 0, .int .i64 0]) 3 Try.underlying22 hi hz0 hz1 .i64 .i64 (zs.length : Int) zs.length rfl rfl rfl ?hby ?h63 ?hbase ?_; (case hby => rw [hz2]; omega); (case h63 => unfold maxLen; omega); (case hbase => exact Nat.le_refl _); intro w2 hown2 hgrow2; have HO2 : Hid (type_of% hown2) := hown2; have HB2 : Hid (Below w1.heap.size w1 w2) := ⟨hgrow2.os, hgrow2.tape, hgrow2.output, hgrow2.size, fun k hk => hgrow2.block k hk (by simp)⟩; clear hown2 hgrow2; clear c0 c1 c2 cs cr; obtain ⟨⟨c0, c1, c2⟩, cs, cr, _, _, _⟩ := HK.out w2 (HB1.out.trans (HB2.out.mono HB1.out.size)))
    | (go_at_call 32; refine (HNC.out _).mono ?_; rintro e w3 ⟨rfl, hb3⟩; have HB3 : Hid (Below w2.heap.size w2 w3) := hb3; clear hb3))
  have HB13 : Hid (Below w1.heap.size w1 w3) := HB2.out.trans (HB3.out.mono HB2.out.size)
  have HO3 : Hid (w3.ownsRow w1.heap.size 46 3 (.slice (some ⟨w1.heap.size, 0, none⟩) 0 zs.length) 0 []) := rowC_keep HO2.out HB3.out
  clear HO2 HB2 HB3 c0 c1 c2 cs cr HR
  obtain ⟨R, hR⟩ : ∃ R, w1.heap.size = R := ⟨_, rfl⟩
  rw [hR] at HO3 ⊢
  have HRR : Hid (w1.heap.size = R) := hR
  clear hR
  go_loopw [5, 19] (fun sv iv wr => ∃ (k : Nat) (so : Option Addr) (sc : Nat), k ≤ n ∧ iv = .int .i64 k ∧ sv = .slice so (zs.take (firstAt zs k)).length sc ∧ wr.ownsRow w1.heap.size 46 3 (.slice so (zs.take (firstAt zs k)).length sc) (zs.take (firstAt zs k)).length (flatC (zs.take (firstAt zs k))) ∧ Below w1.heap.size w1 wr) (fun _ iv _ => n - (intOf iv).toNat)
  case atStart =>
    refine ⟨0, some ⟨R, 0, none⟩, zs.length, Nat.zero_le _, rfl, ?_, ?_, HB13.out⟩
    · rw [HZ.out.1]; rfl
    · rw [HZ.out.1, HRR.out]; exact HO3.out
  case round =>
    obtain ⟨k, so, sc, hk, rfl, rfl, hO, hb⟩ := hrel
    have HOW : Hid (type_of% hO) := hO
    have HBW : Hid (Below w1.heap.size w1 wr) := hb
    obtain ⟨⟨c0, c1, c2⟩, cs, cr, _, hbw, cg⟩ := HK.out wr (HB1.out.trans (hb.mono HB1.out.size))
    clear hO hb
    by_cases hlt : k < n
    · have HA : Hid (type_of% (HAP.out w1 wr HB1.out HBW.out so sc k hlt HOW.out)) := HAP.out w1 wr HB1.out HBW.out so sc k hlt HOW.out
      generalize (zs.take (firstAt zs k)).length = q at *
      clear hbw cg
      go_wp2_with (go_at_call 33; refine HA.out.mono ?_; rintro e w4 ⟨av, rfl, hO4, hb4⟩; have HO4 : Hid (type_of% hO4) := hO4; have HB4 : Hid (type_of% hb4) := hb4; clear hO4 hb4)
      obtain ⟨po, pc, hv⟩ := rowC_slice HO4.out
      subst hv
      go_roundw
      case rel => exact ⟨k + 1, po, pc, by omega, by go_num, rfl, HO4.out, HB4.out⟩
      case measure => simp [intOf]; omega
    · obtain rfl : k = n := by omega
      have hlen : (zs.take (firstAt zs k)).length = zs.length := by rw [HZ.out.2, List.take_length]
      have htk : zs.take (firstAt zs k) = zs := by rw [HZ.out.2, List.take_length]
      have HOW2 : Hid (wr.ownsRow w1.heap.size 46 3 (.slice so zs.length sc) zs.length (flatC zs)) := by
        have h := HOW.out
        rw [htk] at h
        exact h
      have HGW : Hid (wr.heap[w.heap.size + 1]? = some (.cells #[.int .i64 0, .slice none 0 0] 24)) := cg
      rw [hlen]
      clear hlen htk HOW hbw cg
      go_wp2_with (go_at_call 32; refine (HNC.out _).mono ?_; rintro e w5 ⟨rfl, hb5⟩; have HB5 : Hid (Below wr.heap.size wr w5) := hb5; clear hb5; obtain ⟨b0, b1, y0, y1⟩ : w5.cell? ⟨w.heap.size + 1, 0, none⟩ = some (.int .i64 0) ∧ w5.cell? ⟨w.heap.size + 1, 1, none⟩ = some (.slice none 0 0) ∧ w5.frozen? ⟨w.heap.size + 1, 0, none⟩ = false ∧ w5.frozen? ⟨w.heap.size + 1, 1, none⟩ = false := (by have hh := (HB5.out.block _ (lt_of_get HGW.out)).trans HGW.out; simp [World.cell?, World.frozen?, hh]); have cl5 : w.heap.size + 1 < w5.heap.size := Nat.lt_of_lt_of_le cr HB5.out.size)
      have HZZ : Hid (Below w.heap.size w w5 ∧ w.heap.size ≤ w1.heap.size) := by
        have h1 := HB1.out.trans (HBW.out.mono HB1.out.size)
        have h2 := h1.trans (HB5.out.mono h1.size)
        exact ⟨(HK.out w5 h2).2.2.2.2.1, (HK.out w1 HB1.out).2.2.2.2.1.size⟩
      refine bodyPost_ret (v := .tuple #[.agg #[.int .i64 k, .slice so zs.length sc], .nilIface]) (by simp [results, Try.results10, go_sem, b0, b1]) rfl ⟨so, sc, rfl, ?_, ?_⟩
      · exact own_far (rowC_keep HOW2.out HB5.out) ((HB5.out.block _ (lt_of_get HGW.out)).trans HGW.out) (by decide) (fun g hg => (heap_setCell_other _ _ _ _ hg).trans (heap_setCell_other _ _ _ _ hg)) HZZ.out.2
      · exact (HZZ.out.1.setCell (p := ⟨w.heap.size + 1, 0, none⟩) (by simp) _).setCell (p := ⟨w.heap.size + 1, 1, none⟩) (by simp) _
end Go.Proofs.Ytgfmalimnbgdeaa
