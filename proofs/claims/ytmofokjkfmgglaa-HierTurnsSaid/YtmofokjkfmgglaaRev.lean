/- normal.Reverse: the arcs turned about, in new memory; beside an error nothing. -/
import Derived.Test.YtmofokjkfmgglaaOf
namespace Go.Proofs.Ytmofokjkfmgglaa
open Go.RowKit Go.Extern Go.Sort Go.Shelf

attribute [local go_sem] Oper.semAt_some

theorem keeps_two {W : World} {b : Nat} {c : Array Value} {t : TypeId} (h : W.heap[b]? = some (.cells c t)) (ht : t ≠ 128) (u v : Value) : Keeps W ((W.setCell ⟨b, 0, none⟩ u).setCell ⟨b, 1, none⟩ v) := fun d x hd => by
  have hne : d ≠ b := fun e => by rw [e, h] at hd; cases hd; exact ht rfl
  rw [heap_setCell_other _ _ _ _ hne, heap_setCell_other _ _ _ _ hne]
  exact hd
/-- an arc turned about. -/
def turn (a : Int × Int × Int) : Int × Int × Int := (a.2.1, a.1, a.2.2)
/-- what holds at each round. -/
structure RevI (w : World) (R : Nat) (N : Int) (ao : Option Addr) (cap : Nat) (xs : List (Int × Int × Int)) (k : Nat) (wr : World) : Prop where
  done : ∀ j a, j < k → xs[j]? = some a → wr.cell? ⟨R, j * 3, none⟩ = some (.int .i64 a.2.1) ∧ wr.cell? ⟨R, j * 3 + 1, none⟩ = some (.int .i64 a.1) ∧ wr.cell? ⟨R, j * 3 + 2, none⟩ = some (.int .i64 a.2.2)
  room : ∀ o, o < xs.length * 3 → ∃ v, wr.cell? ⟨R, o, none⟩ = some v
  free : ∀ o, wr.frozen? ⟨R, o, none⟩ = false
  lt : R < wr.heap.size
  box : wr.heap[w.heap.size]? = some (.cells #[.int .i64 N, .slice ao xs.length cap] 46)
  res : wr.heap[w.heap.size + 1]? = some (.cells #[.int .i64 0, .slice none 0 0] 46)
  below : Below w.heap.size w wr
theorem RevI.keep {w : World} {R : Nat} {N : Int} {ao : Option Addr} {cap : Nat} {xs : List (Int × Int × Int)} {k : Nat} {wr wn : World} (h : RevI w R N ao cap xs k wr) (hb : Below wr.heap.size wr wn) : RevI w R N ao cap xs k wn := by
  have hc : ∀ o, wn.cell? ⟨R, o, none⟩ = wr.cell? ⟨R, o, none⟩ := fun o => hb.cell (p := ⟨R, o, none⟩) h.lt
  refine ⟨fun j a hj ha => ?_, fun o ho => ?_, fun o => ?_, Nat.lt_of_lt_of_le h.lt hb.size, (hb.block _ (lt_of_get h.box)).trans h.box, (hb.block _ (lt_of_get h.res)).trans h.res, h.below.trans (hb.mono h.below.size)⟩
  · rw [hc, hc, hc]; exact h.done j a hj ha
  · rw [hc]; exact h.room o ho
  · have := h.free o
    simp only [World.frozen?, hb.block _ h.lt] at *
    exact this
theorem RevI.next {w : World} {R : Nat} {N : Int} {ao : Option Addr} {cap : Nat} {xs : List (Int × Int × Int)} {k : Nat} {wr : World} (h : RevI w R N ao cap xs k wr) {a : Int × Int × Int} (ha : xs[k]? = some a) (hR : w.heap.size + 1 < R) :
    RevI w R N ao cap xs (k + 1) (((wr.setCell ⟨R, k * 3, none⟩ (.int .i64 a.2.1)).setCell ⟨R, k * 3 + 1, none⟩ (.int .i64 a.1)).setCell ⟨R, k * 3 + 2, none⟩ (.int .i64 a.2.2)) := by
  have hlt := (List.getElem?_eq_some_iff.1 ha).1
  obtain ⟨v0, h0⟩ := h.room (k * 3) (by omega)
  obtain ⟨v1, h1⟩ := h.room (k * 3 + 1) (by omega)
  obtain ⟨v2, h2⟩ := h.room (k * 3 + 2) (by omega)
  have hne : ∀ x y : Nat, x ≠ y → (⟨R, x, none⟩ : Addr) ≠ ⟨R, y, none⟩ := fun x y hxy e => hxy (congrArg Addr.off e)
  have hoth : ∀ o, o ≠ k * 3 → o ≠ k * 3 + 1 → o ≠ k * 3 + 2 → (((wr.setCell ⟨R, k * 3, none⟩ (.int .i64 a.2.1)).setCell ⟨R, k * 3 + 1, none⟩ (.int .i64 a.1)).setCell ⟨R, k * 3 + 2, none⟩ (.int .i64 a.2.2)).cell? ⟨R, o, none⟩ = wr.cell? ⟨R, o, none⟩ := fun o n0 n1 n2 => by
    rw [World.cell?_setCell_other _ _ _ _ (hne _ _ (Ne.symm n2)), World.cell?_setCell_other _ _ _ _ (hne _ _ (Ne.symm n1)), World.cell?_setCell_other _ _ _ _ (hne _ _ (Ne.symm n0))]
  have g1 : (wr.setCell ⟨R, k * 3, none⟩ (.int .i64 a.2.1)).cell? ⟨R, k * 3 + 1, none⟩ = some v1 := (World.cell?_setCell_other _ _ _ _ (hne _ _ (by omega))).trans h1
  have g2 : ((wr.setCell ⟨R, k * 3, none⟩ (.int .i64 a.2.1)).setCell ⟨R, k * 3 + 1, none⟩ (.int .i64 a.1)).cell? ⟨R, k * 3 + 2, none⟩ = some v2 := (World.cell?_setCell_other _ _ _ _ (hne _ _ (by omega))).trans ((World.cell?_setCell_other _ _ _ _ (hne _ _ (by omega))).trans h2)
  have c0 : (((wr.setCell ⟨R, k * 3, none⟩ (.int .i64 a.2.1)).setCell ⟨R, k * 3 + 1, none⟩ (.int .i64 a.1)).setCell ⟨R, k * 3 + 2, none⟩ (.int .i64 a.2.2)).cell? ⟨R, k * 3, none⟩ = some (.int .i64 a.2.1) := by
    rw [World.cell?_setCell_other _ _ _ _ (hne _ _ (by omega)), World.cell?_setCell_other _ _ _ _ (hne _ _ (by omega)), World.cell?_setCell_same _ _ _ h0]
  have c1 : (((wr.setCell ⟨R, k * 3, none⟩ (.int .i64 a.2.1)).setCell ⟨R, k * 3 + 1, none⟩ (.int .i64 a.1)).setCell ⟨R, k * 3 + 2, none⟩ (.int .i64 a.2.2)).cell? ⟨R, k * 3 + 1, none⟩ = some (.int .i64 a.1) := by
    rw [World.cell?_setCell_other _ _ _ _ (hne _ _ (by omega)), World.cell?_setCell_same _ _ _ g1]
  have c2 : (((wr.setCell ⟨R, k * 3, none⟩ (.int .i64 a.2.1)).setCell ⟨R, k * 3 + 1, none⟩ (.int .i64 a.1)).setCell ⟨R, k * 3 + 2, none⟩ (.int .i64 a.2.2)).cell? ⟨R, k * 3 + 2, none⟩ = some (.int .i64 a.2.2) := World.cell?_setCell_same _ _ _ g2
  refine ⟨fun j b hj hb => ?_, fun o ho => ?_, fun o => ?_, by simp; exact h.lt, ?_, ?_, ?_⟩
  · by_cases hjk : j = k
    · subst hjk
      obtain rfl : a = b := Option.some.inj (ha.symm.trans hb)
      exact ⟨c0, c1, c2⟩
    · rw [hoth _ (by omega) (by omega) (by omega), hoth _ (by omega) (by omega) (by omega), hoth _ (by omega) (by omega) (by omega)]
      exact h.done j b (by omega) hb
  · by_cases e0 : o = k * 3
    · subst e0; exact ⟨_, c0⟩
    · by_cases e1 : o = k * 3 + 1
      · subst e1; exact ⟨_, c1⟩
      · by_cases e2 : o = k * 3 + 2
        · subst e2; exact ⟨_, c2⟩
        · rw [hoth o e0 e1 e2]; exact h.room o ho
  · simp; exact h.free o
  · rw [heap_setCell_other _ _ _ _ (by show w.heap.size ≠ R; omega), heap_setCell_other _ _ _ _ (by show w.heap.size ≠ R; omega), heap_setCell_other _ _ _ _ (by show w.heap.size ≠ R; omega)]; exact h.box
  · rw [heap_setCell_other _ _ _ _ (by show w.heap.size + 1 ≠ R; omega), heap_setCell_other _ _ _ _ (by show w.heap.size + 1 ≠ R; omega), heap_setCell_other _ _ _ _ (by show w.heap.size + 1 ≠ R; omega)]; exact h.res
  · exact ((h.below.setCell (p := ⟨R, k * 3, none⟩) (by show w.heap.size ≤ R; omega) _).setCell (p := ⟨R, k * 3 + 1, none⟩) (by show w.heap.size ≤ R; omega) _).setCell (p := ⟨R, k * 3 + 2, none⟩) (by show w.heap.size ≤ R; omega) _

set_option maxRecDepth 100000 in
set_option maxHeartbeats 4000000 in
theorem reverse_calls (N : Int) (ao : Option Addr) (cap : Nat) (xs : List (Int × Int × Int)) (w : World) (hl : HasArcs w (.slice ao xs.length cap) xs) (hm : xs.length ≤ maxLen) :
    Calls Try.prog 19 #[.agg #[.int .i64 N, .slice ao xs.length cap]] w fun e w' => ∃ M lo n lc v ys, e = .returned (.tuple #[.agg #[.int .i64 M, .slice lo n lc], v]) ∧ HasArcs w' (.slice lo n lc) ys ∧ ys.length ≤ xs.length ∧ IsTold w' (graphErr N xs) v ∧ ((graphErr N xs = (0, []) ∧ M = N ∧ ys = xs.map turn) ∨ (graphErr N xs ≠ (0, []) ∧ M = 0 ∧ ys = [])) ∧ Below w.heap.size w w' := by
  obtain ⟨i0, hi, hz0, hz1, hz2⟩ : ∃ i, Try.prog.info? 58 = some i ∧ i.zero = some (.agg #[.int .i64 0, .int .i64 0, .int .i64 0]) ∧ i.size = 3 ∧ i.bytes = 24 := by
    have h := Try.info51
    cases hi : Try.prog.info? 58 with
    | none => rw [hi] at h; cases h
    | some i => rw [hi] at h; simp at h; exact ⟨i, rfl, h.1, h.2.1, h.2.2⟩
  obtain ⟨W0, hW0⟩ : ∃ W0, (w.alloc (.cells #[.int .i64 N, .slice ao xs.length cap] 46)).alloc (.cells #[.int .i64 0, .slice none 0 0] 46) = W0 := ⟨_, rfl⟩
  have hB0 : Below w.heap.size w W0 := by rw [← hW0]; exact ((Below.refl _ w).alloc (Nat.le_refl _) _).alloc (by simp) _
  have k0 : W0.heap[w.heap.size]? = some (.cells #[.int .i64 N, .slice ao xs.length cap] 46) := by rw [← hW0, Below.heap_alloc _ _ _ (by simp)]; exact heap_new _ _
  have k1 : W0.heap[w.heap.size + 1]? = some (.cells #[.int .i64 0, .slice none 0 0] 46) := by
    have h := heap_new (w.alloc (.cells #[.int .i64 N, .slice ao xs.length cap] 46)) (.cells #[.int .i64 0, .slice none 0 0] 46)
    rw [hW0] at h
    simpa using h
  have hs0 : W0.heap.size = w.heap.size + 2 := by rw [← hW0]; simp
  have HW0 : Hid ((w.alloc (.cells #[.int .i64 N, .slice ao xs.length cap] 46)).alloc (.cells #[.int .i64 0, .slice none 0 0] 46) = W0) := hW0
  have HB0 : Hid (Below w.heap.size w W0) := hB0
  have HCK : Hid (Calls Try.prog 49 #[.agg #[.int .i64 N, .slice ao xs.length cap]] W0 fun e w' => ∃ v, e = .returned v ∧ IsTold w' (graphErr N xs) v ∧ Below W0.heap.size W0 w') := check_calls N ao cap xs W0 (hl.keep hB0) hm
  unfold maxLen at hm
  have HL : Hid (HasArcs w (.slice ao xs.length cap) xs) := hl
  have HK0 : Hid (W0.heap[w.heap.size]? = some (.cells #[.int .i64 N, .slice ao xs.length cap] 46) ∧ W0.heap[w.heap.size + 1]? = some (.cells #[.int .i64 0, .slice none 0 0] 46)) := ⟨k0, k1⟩
  have HSZ : Hid (graphErr N xs = (0, []) → xs.length ≤ 262144) := fun h => by
    unfold graphErr at h
    split at h
    · simp at h
    · omega
  clear hl k0 k1 hB0 hW0
  go_enter Try.func19, Try.ntmps19
  go_wp2_with fail
  rw [HW0.out]
  refine HCK.out.mono ?_
  rintro e w1 ⟨v, rfl, ht1, hb1⟩
  have HT1 : Hid (IsTold w1 (graphErr N xs) v) := ht1
  have HB1 : Hid (Below w.heap.size w w1) := HB0.out.trans (hb1.mono HB0.out.size)
  have HK1 : Hid (w1.heap[w.heap.size]? = some (.cells #[.int .i64 N, .slice ao xs.length cap] 46) ∧ w1.heap[w.heap.size + 1]? = some (.cells #[.int .i64 0, .slice none 0 0] 46)) := ⟨(hb1.block _ (by omega)).trans HK0.out.1, (hb1.block _ (by omega)).trans HK0.out.2⟩
  have hs1 : w.heap.size + 1 < w1.heap.size := lt_of_get HK1.out.2
  have hs2 : w.heap.size < w1.heap.size := by omega
  obtain ⟨c0, c1⟩ : w1.cell? ⟨w.heap.size, 0, none⟩ = some (.int .i64 N) ∧ w1.cell? ⟨w.heap.size, 1, none⟩ = some (.slice ao xs.length cap) := by simp [World.cell?, HK1.out.1]
  obtain ⟨b0, b1, y0, y1⟩ : w1.cell? ⟨w.heap.size + 1, 0, none⟩ = some (.int .i64 0) ∧ w1.cell? ⟨w.heap.size + 1, 1, none⟩ = some (.slice none 0 0) ∧ w1.frozen? ⟨w.heap.size + 1, 0, none⟩ = false ∧ w1.frozen? ⟨w.heap.size + 1, 1, none⟩ = false := by simp [World.cell?, World.frozen?, HK1.out.2]
  clear hb1
  rcases ht1 with ⟨hg, hv⟩ | ⟨hg, hv⟩
  · subst hv
    have hlen := HSZ.out hg
    have HG : Hid (graphErr N xs = (0, [])) := hg
    clear hg
    go_wp2_with (refine wpList_make_full _ rfl _ _ 44 rfl w.heap.size 58 i0 (.agg #[.int .i64 0, .int .i64 0, .int .i64 0]) 3 Try.underlying44 hi hz0 hz1 .i64 .i64 (xs.length : Int) (xs.length : Int) xs.length rfl rfl rfl rfl ?hby ?h63 ?hbase ?_; (case hby => rw [hz2]; omega); (case h63 => unfold maxLen; omega); (case hbase => omega); intro w2 hown2 hgrow2; have hbW2 : ∀ k, k < w1.heap.size → w2.heap[k]? = w1.heap[k]? := (fun k hk => hgrow2.block k hk (by simp)); have hlt2 : w1.heap.size ≤ w2.heap.size := hgrow2.size; have d0 : w2.cell? ⟨w.heap.size, 0, none⟩ = some (.int .i64 N) := (World.cell?_of_block (w := w1) (a := ⟨w.heap.size, 0, none⟩) (hbW2 _ hs2)).trans c0; have d1 : w2.cell? ⟨w.heap.size, 1, none⟩ = some (.slice ao xs.length cap) := (World.cell?_of_block (w := w1) (a := ⟨w.heap.size, 1, none⟩) (hbW2 _ hs2)).trans c1)
    have hfb : ∃ cur, w2.heap[w1.heap.size]? = some (.cells cur 58) ∧ cur.size = xs.length * 3 := by
      rcases hown2.2 with ⟨e, _⟩ | ⟨g', cap', cur, e, _, hh, _, _, hcs, _⟩
      · cases e
      · cases e; exact ⟨cur, hh, hcs⟩
    obtain ⟨cur, hcur, hcs⟩ := hfb
    have HI2 : Hid (RevI w w1.heap.size N ao cap xs 0 w2) := ⟨fun j a hj => by omega, fun o ho => ⟨cur[o]'(by omega), by simp [World.cell?, hcur, Array.getElem?_eq_getElem (show o < cur.size by omega)]⟩, fun o => by simp [World.frozen?, hcur], lt_of_get hcur, (hbW2 _ hs2).trans HK1.out.1, (hbW2 _ hs1).trans HK1.out.2, HB1.out.trans ⟨hgrow2.os, hgrow2.tape, hgrow2.output, hgrow2.size, fun k hk => hbW2 k (by omega)⟩⟩
    have HR : Hid (w.heap.size + 1 < w1.heap.size) := hs1
    clear hown2 hgrow2 hbW2 hlt2 c0 c1 d0 d1 hcur hcs b0 b1 y0 y1
    obtain ⟨R, hR⟩ : ∃ R, w1.heap.size = R := ⟨_, rfl⟩
    rw [hR] at HI2 HR ⊢
    clear hs1 hs2 HK1 HB1 hR
    go_loopw [21] (fun iv wr => ∃ k : Nat, k ≤ xs.length ∧ iv = .int .i64 k ∧ RevI w R N ao cap xs k wr) (fun iv _ => xs.length - (intOf iv).toNat)
    case atStart => exact ⟨0, Nat.zero_le _, rfl, HI2.out⟩
    case round =>
      obtain ⟨k, hk, rfl, hinv⟩ := hrel
      have HI : Hid (RevI w R N ao cap xs k wr) := hinv
      clear hinv
      by_cases hlt : k < xs.length
      · obtain ⟨a, ha⟩ : ∃ a, xs[k]? = some a := ⟨xs[k], List.getElem?_eq_getElem hlt⟩
        obtain ⟨b, off, hao, hbl, q0, q1, q2⟩ := HL.out.at ha
        subst hao
        have e0 := (HI.out.below.cell (p := ⟨b, off + k * 3, none⟩) hbl).trans q0
        have e1 := (HI.out.below.cell (p := ⟨b, off + k * 3 + 1, none⟩) hbl).trans q1
        have e2 := (HI.out.below.cell (p := ⟨b, off + k * 3 + 2, none⟩) hbl).trans q2
        have HIN : Hid (RevI w R N (some ⟨b, off, none⟩) cap xs (k + 1) ((((wr.setCell ⟨R, k * 3, none⟩ (.int .i64 a.2.1)).setCell ⟨R, k * 3 + 1, none⟩ (.int .i64 a.1)).setCell ⟨R, k * 3 + 2, none⟩ (.int .i64 a.2.2)).alloc (.cells #[.int .i64 a.1, .int .i64 a.2.1, .int .i64 a.2.2] 58))) := (HI.out.next ha HR.out).keep ((Below.refl _ _).alloc (Nat.le_refl _) _)
        obtain ⟨v0, f0⟩ := HI.out.room (k * 3) (by omega)
        obtain ⟨v1, f1⟩ := HI.out.room (k * 3 + 1) (by omega)
        obtain ⟨v2, f2⟩ := HI.out.room (k * 3 + 2) (by omega)
        have z0 := HI.out.free (k * 3)
        have z1 := HI.out.free (k * 3 + 1)
        have z2 := HI.out.free (k * 3 + 2)
        have hRl := HI.out.lt
        clear q0 q1 q2 ha
        go_wp2
        go_roundw
        case rel => exact ⟨k + 1, by omega, by go_num, HIN.out⟩
        case measure => simp [intOf]; omega
      · obtain rfl : k = xs.length := by omega
        have hb2 := HI.out.box
        have hr2 := HI.out.res
        obtain ⟨c0, c1⟩ : wr.cell? ⟨w.heap.size, 0, none⟩ = some (.int .i64 N) ∧ wr.cell? ⟨w.heap.size, 1, none⟩ = some (.slice ao xs.length cap) := by simp [World.cell?, hb2]
        obtain ⟨b0, b1, y0, y1⟩ : wr.cell? ⟨w.heap.size + 1, 0, none⟩ = some (.int .i64 0) ∧ wr.cell? ⟨w.heap.size + 1, 1, none⟩ = some (.slice none 0 0) ∧ wr.frozen? ⟨w.heap.size + 1, 0, none⟩ = false ∧ wr.frozen? ⟨w.heap.size + 1, 1, none⟩ = false := by simp [World.cell?, World.frozen?, hr2]
        have hRR := HR.out
        clear hb2 hr2
        go_wp2
        refine bodyPost_ret (v := .tuple #[.agg #[.int .i64 N, .slice (some ⟨R, 0, none⟩) xs.length xs.length], .nilIface]) (by simp [results, Try.results19, go_sem, b0, b1]) rfl ⟨N, some ⟨R, 0, none⟩, xs.length, xs.length, .nilIface, xs.map turn, rfl, ⟨_, _, by rw [List.length_map], fun j a hj => ⟨R, 0, rfl, by simp; exact HI.out.lt, ?_⟩⟩, by rw [List.length_map]; exact Nat.le_refl _, Or.inl ⟨HG.out, rfl⟩, Or.inl ⟨HG.out, rfl, rfl⟩, ?_⟩
        · rw [List.getElem?_map] at hj
          obtain ⟨p, hp, rfl⟩ := Option.map_eq_some_iff.1 hj
          obtain ⟨g0, g1, g2⟩ := HI.out.done j p (List.getElem?_eq_some_iff.1 hp).1 hp
          rw [Nat.zero_add]
          refine ⟨?_, ?_, ?_⟩
          · rw [World.cell?_setCell_other _ _ _ _ (by intro e; have := congrArg Addr.block e; simp at this; omega), World.cell?_setCell_other _ _ _ _ (by intro e; have := congrArg Addr.block e; simp at this; omega)]; exact g0
          · rw [World.cell?_setCell_other _ _ _ _ (by intro e; have := congrArg Addr.block e; simp at this; omega), World.cell?_setCell_other _ _ _ _ (by intro e; have := congrArg Addr.block e; simp at this; omega)]; exact g1
          · rw [World.cell?_setCell_other _ _ _ _ (by intro e; have := congrArg Addr.block e; simp at this; omega), World.cell?_setCell_other _ _ _ _ (by intro e; have := congrArg Addr.block e; simp at this; omega)]; exact g2
        · exact (HI.out.below.setCell (p := ⟨w.heap.size + 1, 0, none⟩) (by simp) _).setCell (p := ⟨w.heap.size + 1, 1, none⟩) (by simp) _
  · obtain ⟨T, x, hsh⟩ : ∃ T x, v = .iface T x := by
      cases hps : (graphErr N xs).2 with
      | nil => rw [hps] at hv; exact ⟨_, _, hv⟩
      | cons p r => rw [hps] at hv; obtain ⟨b, u, e, _⟩ := hv; exact ⟨_, _, e⟩
    subst hsh
    have HGN : Hid (graphErr N xs ≠ (0, [])) := fun e => hg (by rw [e])
    clear hg hv
    go_wp2
    refine bodyPost_ret (v := .tuple #[.agg #[.int .i64 0, .slice none 0 0], .iface T x]) (by simp [results, Try.results19, go_sem, b0, b1]) rfl ⟨0, none, 0, 0, .iface T x, [], rfl, ⟨_, _, rfl, fun j a hj => by simp at hj⟩, Nat.zero_le _, ?_, Or.inr ⟨HGN.out, rfl, rfl⟩, ?_⟩
    · exact HT1.out.keep (keeps_two HK1.out.2 (by decide) _ _)
    · exact (HB1.out.setCell (p := ⟨w.heap.size + 1, 0, none⟩) (by simp) _).setCell (p := ⟨w.heap.size + 1, 1, none⟩) (by simp) _
end Go.Proofs.Ytmofokjkfmgglaa
