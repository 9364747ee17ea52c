/- viaductref02.TwinInts, viaductref05.Twin and the law's own 'to': arrays copied into new memory. -/
import Derived.Test.YtbaahjppofbdlaaGreatDoorRefBu
import Derived.Test.YtbaahjppofbdlaaGreatDoorCsrDc
namespace Go.Proofs.YtbaahjppofbdlaaGreatDoor
open Go.RowKit Go.Extern

attribute [local go_sem] Oper.semAt_some

theorem tw_more {l : List Int} {i : Nat} {x : Int} (h : l[i]? = some x) : l.take (i + 1) = l.take i ++ [x] := by
  rw [List.take_add_one, h]; rfl
theorem tw_base {w : World} {B B' n : Nat} {v : Value} {xs : List Value} (h : w.ownsRow B' 3 1 v n xs) (hb : B ≤ B') : w.ownsRow B 3 1 v n xs := by
  obtain ⟨h1, h2⟩ := h
  refine ⟨h1, ?_⟩
  rcases h2 with h2 | ⟨g, cap, cur, e, hg, r⟩
  · exact Or.inl h2
  · exact Or.inr ⟨g, cap, cur, e, by omega, r⟩
theorem tw_cell (w : World) (v : Value) : ∀ j u, [v][j]? = some u → (w.alloc (.cells #[v] 3)).cell? ((⟨w.heap.size, 0, none⟩ : Addr).add j) = some u := by
  intro j u hj
  have h := heap_new w (.cells #[v] 3)
  generalize w.alloc (.cells #[v] 3) = W at h
  rcases j with _ | j
  · cases hj
    simp [Addr.add, World.cell?, h]
  · simp at hj
theorem ibelow_grown {w0 w w' : World} {base n : Nat} {xs : List Value} {v : Value} (hb : Below base w0 w) (h : w.ownsRow base 3 1 v n xs) (hg : w.grownBy w' v.ownBlock) (hs : base ≤ w.heap.size) : Below base w0 w' :=
  hb.trans ⟨hg.os, hg.tape, hg.output, hg.size, fun j hj => hg.block j (Nat.lt_of_lt_of_le hj hs) (fun e => by have := (h.lt j e.symm).1; omega)⟩
theorem iown_below {w w' : World} {B n : Nat} {v : Value} {xs : List Value} (h : w.ownsRow B 3 1 v n xs) (hb : Below w.heap.size w w') : w'.ownsRow B 3 1 v n xs := iown_keep h fun k hk => hb.block _ (h.lt k hk).2

set_option maxRecDepth 100000 in
set_option maxHeartbeats 4000000 in
theorem twinInts_calls (lo : Option Addr) (lc : Nat) (l : List Int) (w : World) (hl : HasInts w (.slice lo l.length lc) l) (hm : l.length * 8 ≤ 140737488351232) :
    Calls Tryz.prog 69 #[.slice lo l.length lc] w fun e w' => ∃ mo mc, e = .returned (.slice mo l.length mc) ∧ w'.ownsRow w.heap.size 3 1 (.slice mo l.length mc) l.length (iv l) ∧ Below w.heap.size w w' := by
  obtain ⟨i0, hi, hz0, hz1, hz2⟩ : ∃ i, Tryz.prog.info? 3 = some i ∧ i.zero = some (.int .i64 0) ∧ i.size = 1 ∧ i.bytes = 8 := by
    have h := infoJ
    cases hi : Tryz.prog.info? 3 with
    | none => rw [hi] at h; cases h
    | some i => rw [hi] at h; simp at h; exact ⟨i, rfl, h.1, h.2.1, h.2.2⟩
  have HL : Hid (HasInts w (.slice lo l.length lc) l) := hl
  clear hl
  go_enter Tryz.func69, Tryz.ntmps69
  go_wp2_with fail
  go_loopw [3, 8] (fun mv nv wr => ∃ (k : Nat) (so : Option Addr) (sc : Nat), k ≤ l.length ∧ nv = .int .i64 k ∧ mv = .slice so k sc ∧ wr.ownsRow w.heap.size 3 1 (.slice so k sc) k (iv (l.take k)) ∧ Below w.heap.size w wr) (fun _ nv _ => l.length - (intOf nv).toNat)
  case atStart => exact ⟨0, none, 0, Nat.zero_le _, rfl, rfl, World.ownsRow_nil _ _ _ _, Below.refl _ _⟩
  case round =>
    obtain ⟨k, so, sc, hk, rfl, rfl, hO, hb⟩ := hrel
    have HO : Hid (type_of% hO) := hO
    have HB : Hid (type_of% hb) := hb
    by_cases hlt : k < l.length
    · obtain ⟨a, ha⟩ : ∃ a, l[k]? = some a := ⟨l[k], List.getElem?_eq_getElem hlt⟩
      obtain ⟨b, off, hlo, hbl, q0⟩ := HL.out.at ha
      subst hlo
      have c0 := (hb.cell (p := ⟨b, off + k, none⟩) hbl).trans q0
      have cl : b < wr.heap.size := Nat.lt_of_lt_of_le hbl hb.size
      have HT1 : Hid (l.take (k + 1) = l.take k ++ [a]) := tw_more ha
      have hws := hb.size
      have i1 : (k : Int) < (l.length : Int) := by omega
      have i2 : (0 : Int) ≤ (k : Int) := by omega
      clear q0 ha hO hb hbl
      go_wp2_with (at_builtin; refine wpList_append_own _ rfl _ _ 27 rfl w.heap.size 3 i0 (.int .i64 0) 1 8 Tryz.underlying27 hi hz0 hz1 hz2 rfl (by decide) (.slice so k sc) k (iv (l.take k)) rfl (iown_below HO.out ((Below.refl _ wr).alloc (Nat.le_refl _) _)) ⟨wr.heap.size, 0, none⟩ 1 1 [.int .i64 a] rfl rfl (tw_cell wr (.int .i64 a)) (fun u hu => by simp at hu; subst hu; rfl) (by unfold maxLen; omega) (by omega) (by simp; omega) ?_; intro v5 w5 hown5 hgr5 _; have H5 : Hid (w5.ownsRow w.heap.size 3 1 v5 (k + 1) (iv (l.take (k + 1))) ∧ Below w.heap.size w w5) := (by refine ⟨?_, ibelow_grown (HB.out.alloc hws _) (iown_below HO.out ((Below.refl _ wr).alloc (Nat.le_refl _) _)) hgr5 (by simp; omega)⟩; rw [HT1.out, iv_append]; exact hown5); clear hown5 hgr5)
      obtain ⟨po, pc, hv5⟩ := iown_slice H5.out.1
      subst hv5
      go_roundw
      case rel => exact ⟨k + 1, po, pc, by omega, by go_num, rfl, H5.out.1, H5.out.2⟩
      case measure => simp [intOf]; omega
    · obtain rfl : k = l.length := by omega
      have H6 : Hid (wr.ownsRow w.heap.size 3 1 (.slice so l.length sc) l.length (iv l)) := by
        have h := HO.out
        rw [List.take_length] at h
        exact h
      clear hO hb
      go_wp2
      go_ret
      exact ⟨so, sc, rfl, H6.out, HB.out⟩

/-- three rows in memory of their own. -/
def Own3 (B : Nat) (w : World) (F T W : List Int) (fv tv wv : Value) : Prop := w.ownsRow B 3 1 fv F.length (iv F) ∧ w.ownsRow B 3 1 tv T.length (iv T) ∧ w.ownsRow B 3 1 wv W.length (iv W)
theorem Own3.keep {B : Nat} {w w' : World} {F T W : List Int} {fv tv wv : Value} (h : Own3 B w F T W fv tv wv) (hb : Below w.heap.size w w') : Own3 B w' F T W fv tv wv := ⟨iown_below h.1 hb, iown_below h.2.1 hb, iown_below h.2.2 hb⟩
theorem Own3.far {B b : Nat} {w w' : World} {F T W : List Int} {fv tv wv : Value} {c : Array Value} {Ty : TypeId} (h : Own3 B w F T W fv tv wv) (hb : w.heap[b]? = some (.cells c Ty)) (hT : Ty ≠ 3) (hk : ∀ g, g ≠ b → w'.heap[g]? = w.heap[g]?) : Own3 B w' F T W fv tv wv :=
  ⟨iown_keep h.1 fun k hk' => hk k fun e => iown_not_box h.1 hb hT (by rw [hk', e]), iown_keep h.2.1 fun k hk' => hk k fun e => iown_not_box h.2.1 hb hT (by rw [hk', e]), iown_keep h.2.2 fun k hk' => hk k fun e => iown_not_box h.2.2 hb hT (by rw [hk', e])⟩
theorem Own3.base {B B' : Nat} {w : World} {F T W : List Int} {fv tv wv : Value} (h : Own3 B' w F T W fv tv wv) (hb : B ≤ B') : Own3 B w F T W fv tv wv := ⟨tw_base h.1 hb, tw_base h.2.1 hb, tw_base h.2.2 hb⟩
/-- what a copy answers. -/
def TwAns (w : World) (F T W : List Int) (e : Ending) (w' : World) : Prop := ∃ fo fc uo tc wo wc, e = .returned (.agg #[.slice fo F.length fc, .slice uo T.length tc, .slice wo W.length wc]) ∧ Own3 w.heap.size w' F T W (.slice fo F.length fc) (.slice uo T.length tc) (.slice wo W.length wc) ∧ Below w.heap.size w w'

section
variable (fo uo wo : Option Addr) (fc tc wc : Nat) (F T W : List Int) (w : World)
set_option maxRecDepth 100000 in
set_option maxHeartbeats 4000000 in
theorem twin_calls (hF : HasInts w (.slice fo F.length fc) F) (hT : HasInts w (.slice uo T.length tc) T) (hW : HasInts w (.slice wo W.length wc) W) (mF : F.length * 8 ≤ 140737488351232) (mT : T.length * 8 ≤ 140737488351232) (mW : W.length * 8 ≤ 140737488351232) :
    Calls Tryz.prog 35 #[.agg #[.slice fo F.length fc, .slice uo T.length tc, .slice wo W.length wc]] w (TwAns w F T W) := by
  obtain ⟨W0, hW0⟩ : ∃ W0, (w.alloc (.cells #[.slice fo F.length fc, .slice uo T.length tc, .slice wo W.length wc] 55)).alloc (.cells #[.slice none 0 0, .slice none 0 0, .slice none 0 0] 55) = W0 := ⟨_, rfl⟩
  have HW0 : Hid ((w.alloc (.cells #[.slice fo F.length fc, .slice uo T.length tc, .slice wo W.length wc] 55)).alloc (.cells #[.slice none 0 0, .slice none 0 0, .slice none 0 0] 55) = W0) := hW0
  have hB0 : Below w.heap.size w W0 := by rw [← hW0]; exact ((Below.refl _ w).alloc (Nat.le_refl _) _).alloc (by simp) _
  have k1 : W0.heap[w.heap.size]? = some (.cells #[.slice fo F.length fc, .slice uo T.length tc, .slice wo W.length wc] 55) := by rw [← hW0, Below.heap_alloc _ _ _ (by simp)]; exact heap_new _ _
  have k2 : W0.heap[w.heap.size + 1]? = some (.cells #[.slice none 0 0, .slice none 0 0, .slice none 0 0] 55) := by
    have h := heap_new (w.alloc (.cells #[.slice fo F.length fc, .slice uo T.length tc, .slice wo W.length wc] 55)) (.cells #[.slice none 0 0, .slice none 0 0, .slice none 0 0] 55)
    rw [hW0] at h
    simpa using h
  have HK : Hid (∀ wx, Below W0.heap.size W0 wx → (wx.cell? ⟨w.heap.size, 0, none⟩ = some (.slice fo F.length fc) ∧ wx.cell? ⟨w.heap.size, 1, none⟩ = some (.slice uo T.length tc) ∧ wx.cell? ⟨w.heap.size, 2, none⟩ = some (.slice wo W.length wc)) ∧ w.heap.size < wx.heap.size) := fun wx hx => by
    have g := (hx.block _ (lt_of_get k1)).trans k1
    exact ⟨box3 g, lt_of_get g⟩
  have HR : Hid (∀ wx, Below W0.heap.size W0 wx → wx.heap[w.heap.size + 1]? = some (.cells #[.slice none 0 0, .slice none 0 0, .slice none 0 0] 55) ∧ Below w.heap.size w wx ∧ w.heap.size ≤ W0.heap.size) := fun wx hx => ⟨(hx.block _ (lt_of_get k2)).trans k2, btr hB0 hx, hB0.size⟩
  have HC : Hid (∀ wx, Below W0.heap.size W0 wx → ∀ (lo : Option Addr) (lc : Nat) (l : List Int), HasInts w (.slice lo l.length lc) l → l.length * 8 ≤ 140737488351232 → Calls Tryz.prog 69 #[.slice lo l.length lc] wx fun e w' => ∃ mo mc, e = .returned (.slice mo l.length mc) ∧ w'.ownsRow W0.heap.size 3 1 (.slice mo l.length mc) l.length (iv l) ∧ Below wx.heap.size wx w') := fun wx hx lo lc l h hm =>
    (twinInts_calls lo lc l wx (h.keep (btr hB0 hx)) hm).mono fun e w' ⟨mo, mc, he, ho, hb⟩ => ⟨mo, mc, he, tw_base ho hx.size, hb⟩
  have HFF : Hid (HasInts w (.slice fo F.length fc) F ∧ F.length * 8 ≤ 140737488351232) := ⟨hF, mF⟩
  have HTT : Hid (HasInts w (.slice uo T.length tc) T ∧ T.length * 8 ≤ 140737488351232) := ⟨hT, mT⟩
  have HWW : Hid (HasInts w (.slice wo W.length wc) W ∧ W.length * 8 ≤ 140737488351232) := ⟨hW, mW⟩
  obtain ⟨⟨c0, c1, c2⟩, cs⟩ := HK.out W0 (Below.refl _ _)
  clear hF hT hW mF mT mW hW0 hB0 k1 k2
  generalize hfl : F.length = fl at *
  generalize htl : T.length = tl at *
  generalize hwl : W.length = wl at *
  have HLL : Hid (F.length = fl ∧ T.length = tl ∧ W.length = wl) := ⟨hfl, htl, hwl⟩
  have HC1 : Hid (∀ wx, Below W0.heap.size W0 wx → Calls Tryz.prog 69 #[.slice fo fl fc] wx fun e w' => ∃ mo mc, e = .returned (.slice mo fl mc) ∧ w'.ownsRow W0.heap.size 3 1 (.slice mo fl mc) fl (iv F) ∧ Below wx.heap.size wx w') := fun wx hx => by
    have h := HC.out wx hx fo fc F (by rw [hfl]; exact HFF.out.1) (by rw [hfl]; exact HFF.out.2)
    rw [hfl] at h
    exact h
  have HC2 : Hid (∀ wx, Below W0.heap.size W0 wx → Calls Tryz.prog 69 #[.slice uo tl tc] wx fun e w' => ∃ mo mc, e = .returned (.slice mo tl mc) ∧ w'.ownsRow W0.heap.size 3 1 (.slice mo tl mc) tl (iv T) ∧ Below wx.heap.size wx w') := fun wx hx => by
    have h := HC.out wx hx uo tc T (by rw [htl]; exact HTT.out.1) (by rw [htl]; exact HTT.out.2)
    rw [htl] at h
    exact h
  have HC3 : Hid (∀ wx, Below W0.heap.size W0 wx → Calls Tryz.prog 69 #[.slice wo wl wc] wx fun e w' => ∃ mo mc, e = .returned (.slice mo wl mc) ∧ w'.ownsRow W0.heap.size 3 1 (.slice mo wl mc) wl (iv W) ∧ Below wx.heap.size wx w') := fun wx hx => by
    have h := HC.out wx hx wo wc W (by rw [hwl]; exact HWW.out.1) (by rw [hwl]; exact HWW.out.2)
    rw [hwl] at h
    exact h
  clear HC HFF HTT HWW hfl htl hwl
  go_enter Tryz.func35, Tryz.ntmps35
  go_wp2_with fail
  rw [HW0.out]
  go_region_held3 (fun w' => w'.cell? ⟨w.heap.size, 0, none⟩ = some (.slice fo fl fc) ∧ w'.cell? ⟨w.heap.size, 1, none⟩ = some (.slice uo tl tc) ∧ w'.cell? ⟨w.heap.size, 2, none⟩ = some (.slice wo wl wc)) (go_keep) (first
    | (go_at_call 69; refine (HC3.out _ Y2.out.1).mono ?_; rintro e y3 ⟨m3, l3, rfl, ho3, hy⟩; have Y3 : Hid (Below W0.heap.size W0 y3 ∧ y3.ownsRow W0.heap.size 3 1 (.slice m1 fl l1) fl (iv F) ∧ y3.ownsRow W0.heap.size 3 1 (.slice m2 tl l2) tl (iv T) ∧ y3.ownsRow W0.heap.size 3 1 (.slice m3 wl l3) wl (iv W)) := ⟨btr Y2.out.1 hy, iown_below Y2.out.2.1 hy, iown_below Y2.out.2.2 hy, ho3⟩; clear hy ho3; obtain ⟨⟨s0, s1, s2⟩, ss⟩ := HK.out y3 Y3.out.1; obtain ⟨r0, r1, r2⟩ := box3 (HR.out y3 Y3.out.1).1; have z0 : y3.frozen? ⟨w.heap.size + 1, 0, none⟩ = false := (by simp [World.frozen?, (HR.out y3 Y3.out.1).1]); have z1 : y3.frozen? ⟨w.heap.size + 1, 1, none⟩ = false := (by simp [World.frozen?, (HR.out y3 Y3.out.1).1]); have z2 : y3.frozen? ⟨w.heap.size + 1, 2, none⟩ = false := (by simp [World.frozen?, (HR.out y3 Y3.out.1).1]); have rs := lt_of_get (HR.out y3 Y3.out.1).1)
    | (go_at_call 69; refine (HC2.out _ Y1.out.1).mono ?_; rintro e y2 ⟨m2, l2, rfl, ho2, hy⟩; have Y2 : Hid (Below W0.heap.size W0 y2 ∧ y2.ownsRow W0.heap.size 3 1 (.slice m1 fl l1) fl (iv F) ∧ y2.ownsRow W0.heap.size 3 1 (.slice m2 tl l2) tl (iv T)) := ⟨btr Y1.out.1 hy, iown_below Y1.out.2 hy, ho2⟩; clear hy ho2; obtain ⟨⟨q0, q1, q2⟩, qs⟩ := HK.out y2 Y2.out.1)
    | (go_at_call 69; refine (HC1.out _ (Below.refl _ W0).drew).mono ?_; rintro e y1 ⟨m1, l1, rfl, ho1, hy⟩; have Y1 : Hid (Below W0.heap.size W0 y1 ∧ y1.ownsRow W0.heap.size 3 1 (.slice m1 fl l1) fl (iv F)) := ⟨(Below.refl _ W0).drew.trans hy, ho1⟩; clear hy ho1; obtain ⟨⟨p0, p1, p2⟩, ps⟩ := HK.out y1 Y1.out.1))
  go_wp2
  refine bodyPost_ret (v := .agg #[.slice m1 fl l1, .slice m2 tl l2, .slice m3 wl l3]) (by simp [results, Tryz.results35, go_sem, r0, r1, r2]) rfl ?_
  obtain ⟨hr, hb, hs⟩ := HR.out y3 Y3.out.1
  obtain ⟨rfl, rfl, rfl⟩ := HLL.out
  exact ⟨m1, l1, m2, l2, m3, l3, rfl, ((show Own3 W0.heap.size y3 F T W _ _ _ from Y3.out.2).far hr (by decide) (fun g hg => ((heap_setCell_other _ _ _ _ hg).trans (heap_setCell_other _ _ _ _ hg)).trans (heap_setCell_other _ _ _ _ hg))).base hs, ((hb.setCell (p := ⟨w.heap.size + 1, 0, none⟩) (by simp) _).setCell (p := ⟨w.heap.size + 1, 1, none⟩) (by simp) _).setCell (p := ⟨w.heap.size + 1, 2, none⟩) (by simp) _⟩

set_option maxRecDepth 100000 in
set_option maxHeartbeats 4000000 in
theorem of8_calls (hF : HasInts w (.slice fo F.length fc) F) (hT : HasInts w (.slice uo T.length tc) T) (hW : HasInts w (.slice wo W.length wc) W) (mF : F.length * 8 ≤ 140737488351232) (mT : T.length * 8 ≤ 140737488351232) (mW : W.length * 8 ≤ 140737488351232) :
    Calls Tryz.prog 16 #[.agg #[.slice fo F.length fc, .slice uo T.length tc, .slice wo W.length wc]] w (TwAns w F T W) := by
  obtain ⟨W0, hW0⟩ : ∃ W0, (w.alloc (.cells #[.slice fo F.length fc, .slice uo T.length tc, .slice wo W.length wc] 55)).alloc (.cells #[.slice none 0 0, .slice none 0 0, .slice none 0 0] 29) = W0 := ⟨_, rfl⟩
  have HW0 : Hid ((w.alloc (.cells #[.slice fo F.length fc, .slice uo T.length tc, .slice wo W.length wc] 55)).alloc (.cells #[.slice none 0 0, .slice none 0 0, .slice none 0 0] 29) = W0) := hW0
  have hB0 : Below w.heap.size w W0 := by rw [← hW0]; exact ((Below.refl _ w).alloc (Nat.le_refl _) _).alloc (by simp) _
  have k2 : W0.heap[w.heap.size + 1]? = some (.cells #[.slice none 0 0, .slice none 0 0, .slice none 0 0] 29) := by
    have h := heap_new (w.alloc (.cells #[.slice fo F.length fc, .slice uo T.length tc, .slice wo W.length wc] 55)) (.cells #[.slice none 0 0, .slice none 0 0, .slice none 0 0] 29)
    rw [hW0] at h
    simpa using h
  have HTW : Hid (type_of% (twin_calls fo uo wo fc tc wc F T W W0 (hF.keep hB0) (hT.keep hB0) (hW.keep hB0) mF mT mW)) := twin_calls fo uo wo fc tc wc F T W W0 (hF.keep hB0) (hT.keep hB0) (hW.keep hB0) mF mT mW
  have HR : Hid (∀ wx, Below W0.heap.size W0 wx → wx.heap[w.heap.size + 1]? = some (.cells #[.slice none 0 0, .slice none 0 0, .slice none 0 0] 29) ∧ Below w.heap.size w wx ∧ w.heap.size ≤ W0.heap.size) := fun wx hx => ⟨(hx.block _ (lt_of_get k2)).trans k2, btr hB0 hx, hB0.size⟩
  clear hF hT hW mF mT mW hW0 hB0 k2
  go_enter Tryz.func16, Tryz.ntmps16
  go_wp2_with fail
  rw [HW0.out]
  refine HTW.out.mono ?_
  rintro e y1 ⟨m1, l1, m2, l2, m3, l3, rfl, ho, hy⟩
  have Y1 : Hid (Below W0.heap.size W0 y1 ∧ Own3 W0.heap.size y1 F T W (.slice m1 F.length l1) (.slice m2 T.length l2) (.slice m3 W.length l3)) := ⟨hy, ho⟩
  have hal : Below y1.heap.size y1 (y1.alloc (.cells #[.slice m1 F.length l1, .slice m2 T.length l2, .slice m3 W.length l3] 55)) := (Below.refl _ _).alloc (Nat.le_refl _) _
  have HAL : Hid (type_of% hal) := hal
  obtain ⟨r0, r1, r2⟩ := box3 (HR.out _ (btr hy hal)).1
  have z0 : (y1.alloc (.cells #[.slice m1 F.length l1, .slice m2 T.length l2, .slice m3 W.length l3] 55)).frozen? ⟨w.heap.size + 1, 0, none⟩ = false := by simp [World.frozen?, (HR.out _ (btr hy hal)).1]
  have z1 : (y1.alloc (.cells #[.slice m1 F.length l1, .slice m2 T.length l2, .slice m3 W.length l3] 55)).frozen? ⟨w.heap.size + 1, 1, none⟩ = false := by simp [World.frozen?, (HR.out _ (btr hy hal)).1]
  have z2 : (y1.alloc (.cells #[.slice m1 F.length l1, .slice m2 T.length l2, .slice m3 W.length l3] 55)).frozen? ⟨w.heap.size + 1, 2, none⟩ = false := by simp [World.frozen?, (HR.out _ (btr hy hal)).1]
  obtain ⟨b0, b1, b2⟩ := box3 (heap_new y1 (.cells #[.slice m1 F.length l1, .slice m2 T.length l2, .slice m3 W.length l3] 55))
  have rs := lt_of_get (HR.out _ (btr hy hal)).1
  have bs := lt_of_get (heap_new y1 (.cells #[.slice m1 F.length l1, .slice m2 T.length l2, .slice m3 W.length l3] 55))
  clear hy ho hal
  go_wp2_with fail
  generalize hY : y1.alloc (.cells #[.slice m1 F.length l1, .slice m2 T.length l2, .slice m3 W.length l3] 55) = y2 at *
  go_wp2
  refine bodyPost_ret (v := .agg #[.slice m1 F.length l1, .slice m2 T.length l2, .slice m3 W.length l3]) (by simp [results, Tryz.results16, go_sem, r0, r1, r2]) rfl ?_
  obtain ⟨hr, hb, hs⟩ := HR.out y2 (btr Y1.out.1 HAL.out)
  exact ⟨m1, l1, m2, l2, m3, l3, rfl, ((Y1.out.2.keep HAL.out).far hr (by decide) (fun g hg => ((heap_setCell_other _ _ _ _ hg).trans (heap_setCell_other _ _ _ _ hg)).trans (heap_setCell_other _ _ _ _ hg))).base hs, ((hb.setCell (p := ⟨w.heap.size + 1, 0, none⟩) (by simp) _).setCell (p := ⟨w.heap.size + 1, 1, none⟩) (by simp) _).setCell (p := ⟨w.heap.size + 1, 2, none⟩) (by simp) _⟩
end
end Go.Proofs.YtbaahjppofbdlaaGreatDoor
