/- csr's appendRow: the arcs of a node's row put behind a list in memory of one's own. -/
import Derived.Test.YtgfmalimnbgdeaaCsrChk
import Derived.Test.YtgfmalimnbgdeaaFlat
namespace Go.Proofs.Ytgfmalimnbgdeaa
open Go.RowKit Go.Extern

attribute [local go_sem] Oper.semAt_some

/-- the row of a node. -/
def rowOf (zs : List (Int × Int × Int)) (v : Nat) (i : Nat) : List (Int × Int × Int) := (zs.take i).drop (firstAt zs v)
theorem rowOf_none (zs : List (Int × Int × Int)) (v : Nat) : rowOf zs v (firstAt zs v) = [] := by
  unfold rowOf
  rw [List.drop_eq_nil_iff, List.length_take]
  omega
theorem rowOf_next {zs : List (Int × Int × Int)} {v i : Nat} {a : Int × Int × Int} (ha : zs[i]? = some a) (h : firstAt zs v ≤ i) : rowOf zs v (i + 1) = rowOf zs v i ++ [a] := by
  unfold rowOf
  have hl := (List.getElem?_eq_some_iff.1 ha).1
  rw [List.take_add_one, ha, List.drop_append_of_le_length (by rw [List.length_take]; omega)]
  rfl
theorem rowOf_len {zs : List (Int × Int × Int)} (v i : Nat) : (rowOf zs v i).length ≤ zs.length := by
  unfold rowOf
  rw [List.length_drop, List.length_take]
  omega

/-- a row of arcs is no block of another type. -/
theorem own_not_box {w : World} {base n b : Nat} {v : Value} {xs : List Value} {c : Array Value} {T : TypeId} (h : w.ownsRow base 46 3 v n xs) (hb : w.heap[b]? = some (.cells c T)) (hT : T ≠ 46) : some b ≠ v.ownBlock := by
  rcases h.2 with ⟨rfl, _⟩ | ⟨g, cap, cur, rfl, _, hg, _⟩
  · intro e; cases e
  · intro e
    have e' : b = g := Option.some.inj e
    subst e'
    rw [hb] at hg
    injection hg with hg
    injection hg with h1 h2
    exact hT h2

set_option maxRecDepth 100000 in
set_option maxHeartbeats 4000000 in
theorem appendRow_good (n : Nat) (zs : List (Int × Int × Int)) (fo to wo : Option Addr) (fc tc wc : Nat) (wB w : World) (hz : Fine n zs) (h : CsrIn wB n zs fo to wo fc tc wc) (hb : Below wB.heap.size wB w)
    (lo : Option Addr) (lc : Nat) (acc : List (Int × Int × Int)) (hO : w.ownsRow wB.heap.size 46 3 (.slice lo acc.length lc) acc.length (flatC acc)) (hacc : acc.length ≤ 262144) (v : Nat) (hv : v < n) :
    Calls Try.prog 33 #[.agg #[.slice fo (n + 1) fc, .slice to zs.length tc, .slice wo zs.length wc], .slice lo acc.length lc, .int .i64 v] w fun e w' => ∃ av, e = .returned av ∧ w'.ownsRow wB.heap.size 46 3 av (acc ++ rowOf zs v (firstAt zs (v + 1))).length (flatC (acc ++ rowOf zs v (firstAt zs (v + 1)))) ∧ Below wB.heap.size wB w' := by
  obtain ⟨fb, fof, rfl, hl, hc⟩ := h.first
  have hN := hz.few
  have hM := hz.short
  obtain ⟨W0, hW0⟩ : ∃ W0, w.alloc (.cells #[.slice (some ⟨fb, fof, none⟩) (n + 1) fc, .slice to zs.length tc, .slice wo zs.length wc] 28) = W0 := ⟨_, rfl⟩
  have HW0 : Hid (w.alloc (.cells #[.slice (some ⟨fb, fof, none⟩) (n + 1) fc, .slice to zs.length tc, .slice wo zs.length wc] 28) = W0) := hW0
  have hB0 : Below w.heap.size w W0 := by rw [← hW0]; exact (Below.refl _ w).alloc (Nat.le_refl _) _
  have HBX : Hid (W0.heap[w.heap.size]? = some (.cells #[.slice (some ⟨fb, fof, none⟩) (n + 1) fc, .slice to zs.length tc, .slice wo zs.length wc] 28)) := by rw [← hW0]; exact heap_new _ _
  have HO : Hid (W0.ownsRow wB.heap.size 46 3 (.slice lo acc.length lc) acc.length (flatC acc)) := rowC_keep hO hB0
  have HB : Hid (Below wB.heap.size wB W0) := hb.trans (hB0.mono hb.size)
  have HK : Hid (∀ wx, Below wB.heap.size wB wx → wx.heap[w.heap.size]? = some (.cells #[.slice (some ⟨fb, fof, none⟩) (n + 1) fc, .slice to zs.length tc, .slice wo zs.length wc] 28) → (wx.cell? ⟨w.heap.size, 0, none⟩ = some (.slice (some ⟨fb, fof, none⟩) (n + 1) fc) ∧ wx.cell? ⟨w.heap.size, 1, none⟩ = some (.slice to zs.length tc) ∧ wx.cell? ⟨w.heap.size, 2, none⟩ = some (.slice wo zs.length wc)) ∧ w.heap.size < wx.heap.size ∧ fb < wx.heap.size ∧ (∀ v, v ≤ n → wx.cell? ⟨fb, fof + v, none⟩ = some (.int .i64 (firstAt zs v)))) := fun wx hx hg =>
    ⟨box3 hg, lt_of_get hg, Nat.lt_of_lt_of_le hl hx.size, fun v hv => (hx.cell (p := ⟨fb, _, none⟩) hl).trans (hc v hv)⟩
  have HAR : Hid (∀ (i : Nat) (a : Int × Int × Int), zs[i]? = some a → ∃ tb tof wb wof, to = some ⟨tb, tof, none⟩ ∧ wo = some ⟨wb, wof, none⟩ ∧ ∀ wx, Below wB.heap.size wB wx → tb < wx.heap.size ∧ wb < wx.heap.size ∧ wx.cell? ⟨tb, tof + i, none⟩ = some (.int .i64 a.2.1) ∧ wx.cell? ⟨wb, wof + i, none⟩ = some (.int .i64 a.2.2)) := fun i a ha => by
    obtain ⟨tb, tof, wb, wof, e1, e2, ht, hw, hA⟩ := h.arc (by have := (List.getElem?_eq_some_iff.1 ha).1; omega)
    exact ⟨tb, tof, wb, wof, e1, e2, fun wx hx => ⟨Nat.lt_of_lt_of_le ht hx.size, Nat.lt_of_lt_of_le hw hx.size, (hx.cell (p := ⟨tb, _, none⟩) ht).trans (hA i a ha).1, (hx.cell (p := ⟨wb, _, none⟩) hw).trans (hA i a ha).2⟩⟩
  have HZ : Hid (Fine n zs) := hz
  have hxy : firstAt zs v ≤ firstAt zs (v + 1) := firstAt_mono zs (by omega)
  have hyl : firstAt zs (v + 1) ≤ zs.length := firstAt_le _ _
  have HFX : Hid (rowOf zs v (firstAt zs v) = []) := rowOf_none zs v
  obtain ⟨x, hx⟩ : ∃ x, firstAt zs v = x := ⟨_, rfl⟩
  obtain ⟨y, hy⟩ : ∃ y, firstAt zs (v + 1) = y := ⟨_, rfl⟩
  have HX : Hid (firstAt zs v = x ∧ firstAt zs (v + 1) = y) := ⟨hx, hy⟩
  rw [hx, hy] at hxy
  rw [hy] at hyl
  rw [hy]
  rw [hx] at HFX
  have e1 : (v : Int) < (n : Int) + 1 := by omega
  have e2 : (v : Int) + 1 < (n : Int) + 1 := by omega
  have e3 : (0 : Int) ≤ (v : Int) := by omega
  have e4 : (0 : Int) ≤ (v : Int) + 1 := by omega
  have e5 : IntKind.i64.wrap ((v : Int) + 1) = (v : Int) + 1 := by rw [IntKind.wrap_i64] <;> omega
  have q0 : w.cell? ⟨fb, fof + v, none⟩ = some (.int .i64 x) := by rw [← hx]; exact (hb.cell (p := ⟨fb, _, none⟩) hl).trans (hc v (by omega))
  have ql : fb < w.heap.size := Nat.lt_of_lt_of_le hl hb.size
  clear hO hb hB0 hW0 h hc hz hl hx hy
  go_enter Try.func33, Try.ntmps33
  go_wp2_with fail
  rw [HW0.out]
  go_loopw [1, 7] (fun av iv wr => ∃ (i : Nat) (so : Option Addr) (sc : Nat), x ≤ i ∧ i ≤ y ∧ iv = .int .i64 i ∧ av = .slice so (acc ++ rowOf zs v i).length sc ∧ wr.ownsRow wB.heap.size 46 3 (.slice so (acc ++ rowOf zs v i).length sc) (acc ++ rowOf zs v i).length (flatC (acc ++ rowOf zs v i)) ∧ Below wB.heap.size wB wr ∧ wr.heap[w.heap.size]? = some (.cells #[.slice (some ⟨fb, fof, none⟩) (n + 1) fc, .slice to zs.length tc, .slice wo zs.length wc] 28)) (fun _ iv _ => y - (intOf iv).toNat)
  case atStart =>
    have h := HFX.out
    refine ⟨x, lo, lc, Nat.le_refl _, hxy, rfl, ?_, ?_, HB.out, HBX.out⟩
    · rw [h, List.append_nil]
    · rw [h, List.append_nil]; exact HO.out
  case round =>
    obtain ⟨i, so, sc, hi1, hi2, rfl, rfl, hO, hb, hbx⟩ := hrel
    have HOW : Hid (type_of% hO) := hO
    have HBW : Hid (Below wB.heap.size wB wr) := hb
    have HBB : Hid (type_of% hbx) := hbx
    obtain ⟨⟨c0, c1, c2⟩, cs, cf, hc⟩ := HK.out wr hb hbx
    have q1 := hc (v + 1) (by omega)
    rw [HX.out.2] at q1
    have HLL : Hid ((acc ++ rowOf zs v i).length ≤ 524288) := by
      show _ ≤ _
      rw [List.length_append]
      have := rowOf_len (zs := zs) v i
      omega
    clear hO hb hbx hc q0 ql
    by_cases hiy : i < y
    · obtain ⟨a, ha⟩ : ∃ a, zs[i]? = some a := ⟨zs[i], List.getElem?_eq_getElem (by omega)⟩
      obtain ⟨tb, tof, wb, wof, rfl, rfl, hA⟩ := HAR.out i a ha
      obtain ⟨lt, lw, t0, w0⟩ := hA wr HBW.out
      have HR : Hid (a.1 = (v : Int) ∧ rowOf zs v (i + 1) = rowOf zs v i ++ [a]) := ⟨HZ.out.row ha (by rw [HX.out.1]; exact hi1) (by rw [HX.out.2]; exact hiy), rowOf_next ha (by rw [HX.out.1]; exact hi1)⟩
      have i1 : (i : Int) < (zs.length : Int) := by omega
      have i2 : (0 : Int) ≤ (i : Int) := by omega
      obtain ⟨a0, a1, a2⟩ := a
      have hR := HR.out
      obtain ⟨hr0, hr1⟩ := hR
      simp only at hr0 t0 w0
      subst hr0
      have HR1 : Hid (rowOf zs v (i + 1) = rowOf zs v i ++ [((v : Int), a1, a2)]) := hr1
      clear HR hr1 hA ha
      obtain ⟨L, hL⟩ : ∃ L, acc ++ rowOf zs v i = L := ⟨_, rfl⟩
      have HRL : Hid (acc ++ rowOf zs v (i + 1) = L ++ [((v : Int), a1, a2)]) := by show _ = _; rw [HR1.out, ← hL, List.append_assoc]
      rw [hL] at HOW HLL ⊢
      clear hL HR1
      go_wp2_with fail
      go_region_law (first
        | (refine step_append_arcs rfl _ _ rfl wB.heap.size (.slice so L.length sc) L rfl (rowC_keep HOW.out ((Below.refl _ wr).drew.alloc (Nat.le_refl _) _)) ⟨wr.heap.size, 0, none⟩ 1 [((v : Int), a1, a2)] rfl (arcs_one wr.drew ((v : Int), a1, a2) 46) (by have := HLL.out; simp only [List.length_cons, List.length_nil]; omega) (by have := HBW.out.size; simp; omega) ?_; intro v3 w3 hown3 hgr3; have HO3 : Hid (type_of% hown3) := hown3; have HG3 : Hid (type_of% hgr3) := hgr3; clear hown3 hgr3))
      all_goals
        obtain ⟨po, pc, hv3⟩ := rowC_slice HO3.out
        subst hv3
        have HN : Hid (w3.ownsRow wB.heap.size 46 3 (.slice po (acc ++ rowOf zs v (i + 1)).length pc) (acc ++ rowOf zs v (i + 1)).length (flatC (acc ++ rowOf zs v (i + 1))) ∧ Below wB.heap.size wB w3 ∧ w3.heap[w.heap.size]? = some (.cells #[.slice (some ⟨fb, fof, none⟩) (n + 1) fc, .slice (some ⟨tb, tof, none⟩) zs.length tc, .slice (some ⟨wb, wof, none⟩) zs.length wc] 28)) := by
          have hal : Below wr.heap.size wr (wr.drew.alloc (.cells #[.int .i64 v, .int .i64 a1, .int .i64 a2] 46)) := (Below.refl _ wr).drew.alloc (Nat.le_refl _) _
          have hbx2 := (hal.block _ (lt_of_get HBB.out)).trans HBB.out
          refine ⟨by rw [HRL.out]; exact HO3.out, below_grown (HBW.out.trans (hal.mono HBW.out.size)) (rowC_keep HOW.out hal) HG3.out (Nat.le_trans HBW.out.size hal.size), ?_⟩
          exact (HG3.out.block _ (lt_of_get hbx2) (own_not_box (rowC_keep HOW.out hal) hbx2 (by decide))).trans hbx2
        have HLE : Hid ((acc ++ rowOf zs v (i + 1)).length = L.length + 1) := by show _ = _; rw [HRL.out, List.length_append]; rfl
        clear HO3 HG3
        go_wp2
        go_roundw
        case rel => exact ⟨i + 1, po, pc, by omega, by omega, by go_num, by rw [HLE.out], HN.out.1, HN.out.2.1, HN.out.2.2⟩
        case measure => simp [intOf]; omega
    · obtain rfl : i = y := by omega
      go_wp2
      go_ret
      exact ⟨_, rfl, HOW.out, HBW.out⟩
end Go.Proofs.Ytgfmalimnbgdeaa
