/- viaductref04.Put: an arc put into a normal list, in new memory. -/
import Derived.Test.YtbfopkhdngfanaaPutI
import Derived.Deep.RegionHeld3
import Derived.BigRegion
namespace Go.Proofs.Ytbfopkhdngfanaa
open Go.RowKit Go.Extern Go.Sort Go.Shelf

attribute [local go_sem] Oper.semAt_some

/-- one arc in a block of its own. -/
theorem arcs_one (w : World) (a : Int × Int × Int) (T : TypeId) : HasArcs (w.alloc (.cells #[.int .i64 a.1, .int .i64 a.2.1, .int .i64 a.2.2] T)) (.slice (some ⟨w.heap.size, 0, none⟩) 1 1) [a] := by
  have h := heap_new w (.cells #[.int .i64 a.1, .int .i64 a.2.1, .int .i64 a.2.2] T)
  generalize w.alloc (.cells #[.int .i64 a.1, .int .i64 a.2.1, .int .i64 a.2.2] T) = W at h ⊢
  refine ⟨_, _, rfl, fun j x hj => ?_⟩
  cases j with
  | zero =>
    simp at hj
    subst hj
    exact ⟨_, 0, rfl, lt_of_get h, by simp [World.cell?, h], by simp [World.cell?, h], by simp [World.cell?, h]⟩
  | succ j => simp at hj
/-- a row of one's own is kept where its block is. -/
theorem rowC_keep {w w' : World} {base n : Nat} {xs : List Value} {v : Value} (h : w.ownsRow base 42 3 v n xs) (hk : RowKit.Below w.heap.size w w') : w'.ownsRow base 42 3 v n xs := by
  obtain ⟨h1, h2⟩ := h
  refine ⟨h1, ?_⟩
  rcases h2 with h2 | ⟨g, cap, cur, e, hb, hh, r⟩
  · exact Or.inl h2
  · exact Or.inr ⟨g, cap, cur, e, hb, (hk.block g (lt_of_get hh)).trans hh, r⟩
theorem below_grown {w0 w w' : World} {base n : Nat} {xs : List Value} {v : Value} (hb : RowKit.Below base w0 w) (h : w.ownsRow base 42 3 v n xs) (hg : w.grownBy w' v.ownBlock) (hs : base ≤ w.heap.size) : RowKit.Below base w0 w' :=
  hb.trans ⟨hg.os, hg.tape, hg.output, hg.size, fun j hj => hg.block j (Nat.lt_of_lt_of_le hj hs) (fun e => by have := (h.lt j e.symm).1; omega)⟩

theorem below_grown2 {w0 w w' : World} {base base' n : Nat} {xs : List Value} {v : Value} (hb : RowKit.Below base w0 w) (h : w.ownsRow base' 42 3 v n xs) (hg : w.grownBy w' v.ownBlock) (hs : base ≤ w.heap.size) (hbb : base ≤ base') : RowKit.Below base w0 w' :=
  hb.trans ⟨hg.os, hg.tape, hg.output, hg.size, fun j hj => hg.block j (Nat.lt_of_lt_of_le hj hs) (fun e => by have := (h.lt j e.symm).1; omega)⟩
theorem rowC_far {w w' : World} {base n : Nat} {xs : List Value} {v : Value} (h : w.ownsRow base 42 3 v n xs) (hk : ∀ g, base ≤ g → g < w.heap.size → w'.heap[g]? = w.heap[g]?) : w'.ownsRow base 42 3 v n xs := by
  obtain ⟨h1, h2⟩ := h
  refine ⟨h1, ?_⟩
  rcases h2 with h2 | ⟨g, cap, cur, e, hb, hh, r⟩
  · exact Or.inl h2
  · exact Or.inr ⟨g, cap, cur, e, hb, (hk g hb (lt_of_get hh)).trans hh, r⟩
theorem below_dalloc (w : World) (q : Nat) (X : Obj) : RowKit.Below w.heap.size w ((w.drewN q).alloc X) := (show RowKit.Below w.heap.size w (w.drewN q) from ⟨rfl, rfl, rfl, Nat.le_refl _, fun _ _ => rfl⟩).alloc (Nat.le_refl _) X

set_option maxRecDepth 100000 in
set_option maxHeartbeats 1000000 in
theorem put_calls (a : Int × Int × Int) (lo : Option Addr) (lc : Nat) (l : List (Int × Int × Int)) (w : World) (hl : HasArcs w (.slice lo l.length lc) l) (hcut : Cut lo l.length lc) (hm : l.length ≤ 262144) :
    Calls Try.prog 44 #[.slice lo l.length lc, arcV a] w fun e w' => ∃ v, e = .returned v ∧ w'.ownsRow (w.heap.size + 1) 42 3 v (putA l a).length (flatC (putA l a)) ∧ RowKit.Below w.heap.size w w' := by
  obtain ⟨k0, hk0, hless, hsp⟩ := put_split l a
  have HLS : Hid (∀ x y wx, Calls Try.prog 55 #[arcV x, arcV y] wx fun e w' => e = .returned (.bool (decide (lessA x y))) ∧ RowKit.Below wx.heap.size wx w') := fun x y wx => less_calls x y wx
  obtain ⟨W0, hW0⟩ : ∃ W0, w.alloc (.cells #[.int .i64 a.1, .int .i64 a.2.1, .int .i64 a.2.2] 42) = W0 := ⟨_, rfl⟩
  have hB0 : RowKit.Below w.heap.size w W0 := by rw [← hW0]; exact (RowKit.Below.refl _ w).alloc (Nat.le_refl _) _
  have k1 : W0.heap[w.heap.size]? = some (.cells #[.int .i64 a.1, .int .i64 a.2.1, .int .i64 a.2.2] 42) := by rw [← hW0]; exact heap_new _ _
  have hs0 : W0.heap.size = w.heap.size + 1 := by rw [← hW0]; simp
  have HW0 : Hid (w.alloc (.cells #[.int .i64 a.1, .int .i64 a.2.1, .int .i64 a.2.2] 42) = W0) := hW0
  have HK : Hid (∀ wx, RowKit.Below W0.heap.size W0 wx → wx.heap[w.heap.size]? = some (.cells #[.int .i64 a.1, .int .i64 a.2.1, .int .i64 a.2.2] 42) ∧ RowKit.Below w.heap.size w wx ∧ HasArcs wx (.slice lo l.length lc) l) := fun wx h => by
    have hb := hB0.trans (h.mono hB0.size)
    exact ⟨(h.block _ (lt_of_get k1)).trans k1, hb, hl.keep hb⟩
  have HS0 : Hid (W0.heap.size = w.heap.size + 1) := hs0
  have HLE : Hid (∀ j x, j < k0 → l[j]? = some x → lessA x a) := hless
  have HSP : Hid (type_of% hsp) := hsp
  have HCU : Hid (Cut lo l.length lc) := hcut
  have HL : Hid (HasArcs w (.slice lo l.length lc) l) := hl
  clear hl hcut hless hsp k1 hB0 hW0 hs0
  obtain ⟨a0, a1, a2⟩ := a
  unfold arcV
  simp only at *
  go_enter Try.func44, Try.ntmps44
  go_wp2_with fail
  rw [HW0.out]
  go_loopw [5] (fun iv wr => ∃ k : Nat, k ≤ k0 ∧ iv = .int .i64 k ∧ RowKit.Below W0.heap.size W0 wr) (fun iv _ => k0 - (intOf iv).toNat)
  case atStart => exact ⟨0, Nat.zero_le _, rfl, RowKit.Below.refl _ _⟩
  case round =>
    obtain ⟨k, hk, rfl, hb⟩ := hrel
    have HB : Hid (RowKit.Below W0.heap.size W0 wr) := hb
    obtain ⟨hbox, _, hA⟩ := HK.out wr hb
    have hwl : w.heap.size < wr.heap.size := lt_of_get hbox
    obtain ⟨t0, t1, t2⟩ : wr.cell? ⟨w.heap.size, 0, none⟩ = some (.int .i64 a0) ∧ wr.cell? ⟨w.heap.size, 1, none⟩ = some (.int .i64 a1) ∧ wr.cell? ⟨w.heap.size, 2, none⟩ = some (.int .i64 a2) := by simp [World.cell?, hbox]
    have b0 : (0 : Int) ≤ k := by omega
    clear hb hbox
    by_cases hlt : k < l.length
    · obtain ⟨x, hx⟩ : ∃ x, l[k]? = some x := ⟨l[k], List.getElem?_eq_getElem hlt⟩
      obtain ⟨b, off, hlo, hbl, q0, q1, q2⟩ := hA.at hx
      obtain ⟨x0, x1, x2⟩ := x
      simp only at q0 q1 q2
      subst hlo
      have HX : Hid (l[k]? = some (x0, x1, x2)) := hx
      have b1 : (k : Int) < (l.length : Int) := by omega
      have HCL : Hid (∀ wx, RowKit.Below wr.heap.size wr wx → (wx.cell? ⟨b, off + k * 3, none⟩ = some (.int .i64 x0) ∧ wx.cell? ⟨b, off + k * 3 + 1, none⟩ = some (.int .i64 x1) ∧ wx.cell? ⟨b, off + k * 3 + 2, none⟩ = some (.int .i64 x2)) ∧ wx.cell? ⟨w.heap.size, 0, none⟩ = some (.int .i64 a0) ∧ wx.cell? ⟨w.heap.size, 1, none⟩ = some (.int .i64 a1) ∧ wx.cell? ⟨w.heap.size, 2, none⟩ = some (.int .i64 a2)) := fun wx h =>
        ⟨⟨(h.cell (p := ⟨b, off + k * 3, none⟩) hbl).trans q0, (h.cell (p := ⟨b, off + k * 3 + 1, none⟩) hbl).trans q1, (h.cell (p := ⟨b, off + k * 3 + 2, none⟩) hbl).trans q2⟩, (h.cell (p := ⟨w.heap.size, 0, none⟩) hwl).trans t0, (h.cell (p := ⟨w.heap.size, 1, none⟩) hwl).trans t1, (h.cell (p := ⟨w.heap.size, 2, none⟩) hwl).trans t2⟩
      have HE : Hid (∀ wx, Calls Try.prog 55 #[.agg #[.int .i64 x0, .int .i64 x1, .int .i64 x2], .agg #[.int .i64 a0, .int .i64 a1, .int .i64 a2]] wx fun e w' => e = .returned (.bool (decide (lessA (x0, x1, x2) (a0, a1, a2)))) ∧ RowKit.Below wx.heap.size wx w') := fun wx => HLS.out (x0, x1, x2) (a0, a1, a2) wx
      clear hA hx
      by_cases hkk : k < k0
      · have HE' : Hid (∀ wx, Calls Try.prog 55 #[.agg #[.int .i64 x0, .int .i64 x1, .int .i64 x2], .agg #[.int .i64 a0, .int .i64 a1, .int .i64 a2]] wx fun e w' => e = .returned (.bool true) ∧ RowKit.Below wx.heap.size wx w') := fun wx => by
          have h := HE.out wx
          rw [decide_eq_true (HLE.out k _ hkk HX.out)] at h
          exact h
        clear HE
        go_wp2_with fail
        go_region_held3 (fun w' => w'.cell? ⟨b, off + k * 3, none⟩ = some (.int .i64 x0) ∧ w'.cell? ⟨b, off + k * 3 + 1, none⟩ = some (.int .i64 x1) ∧ w'.cell? ⟨b, off + k * 3 + 2, none⟩ = some (.int .i64 x2) ∧ w'.cell? ⟨w.heap.size, 0, none⟩ = some (.int .i64 a0) ∧ w'.cell? ⟨w.heap.size, 1, none⟩ = some (.int .i64 a1) ∧ w'.cell? ⟨w.heap.size, 2, none⟩ = some (.int .i64 a2)) (go_keep) (first
          | (go_at_call 55; refine (HE'.out _).mono ?_; rintro e w1 ⟨rfl, hL1⟩; have HL1 : Hid (RowKit.Below wr.heap.size wr w1) := (RowKit.Below.refl _ wr).drew.trans hL1; obtain ⟨⟨g0, g1, g2⟩, g3, g4, g5⟩ := HCL.out w1 HL1.out; clear hL1))
        all_goals
          have HB1 : Hid (RowKit.Below W0.heap.size W0 w1) := HB.out.trans (HL1.out.mono HB.out.size)
          go_wp2
          go_roundw
          case rel => exact ⟨k + 1, by omega, by go_num, HB1.out⟩
          case measure => simp [intOf]; omega
      · obtain rfl : k = k0 := by omega
        obtain ⟨hnl, hsp⟩ : ¬ lessA (x0, x1, x2) (a0, a1, a2) ∧ ((sameA (x0, x1, x2) (a0, a1, a2) ∧ putA l (a0, a1, a2) = l.take k ++ [(a0, a1, min a2 x2)] ++ l.drop (k + 1)) ∨ (¬ sameA (x0, x1, x2) (a0, a1, a2) ∧ putA l (a0, a1, a2) = l.take k ++ [(a0, a1, a2)] ++ l.drop k)) := by
          rcases HSP.out with ⟨h, _⟩ | ⟨c, hc, h1, h2⟩
          · exact absurd h (by omega)
          · obtain rfl : (x0, x1, x2) = c := Option.some.inj (HX.out.symm.trans hc)
            exact ⟨h1, h2⟩
        have HE' : Hid (∀ wx, Calls Try.prog 55 #[.agg #[.int .i64 x0, .int .i64 x1, .int .i64 x2], .agg #[.int .i64 a0, .int .i64 a1, .int .i64 a2]] wx fun e w' => e = .returned (.bool false) ∧ RowKit.Below wx.heap.size wx w') := fun wx => by
          have h := HE.out wx
          rw [decide_eq_false hnl] at h
          exact h
        clear HE hnl HSP HLE
        rcases hsp with ⟨hs, hsq⟩ | ⟨hs, hsq⟩
        · have HSQ : Hid (putA l (a0, a1, a2) = l.take k ++ [(a0, a1, min a2 x2)] ++ l.drop (k + 1)) := hsq
          clear hsq
          go_wp2_with fail
          go_region_held3 (fun w' => w'.cell? ⟨b, off + k * 3, none⟩ = some (.int .i64 x0) ∧ w'.cell? ⟨b, off + k * 3 + 1, none⟩ = some (.int .i64 x1) ∧ w'.cell? ⟨b, off + k * 3 + 2, none⟩ = some (.int .i64 x2) ∧ w'.cell? ⟨w.heap.size, 0, none⟩ = some (.int .i64 a0) ∧ w'.cell? ⟨w.heap.size, 1, none⟩ = some (.int .i64 a1) ∧ w'.cell? ⟨w.heap.size, 2, none⟩ = some (.int .i64 a2)) (go_keep) (first
            | (go_at_call 55; refine (HE'.out _).mono ?_; rintro e w1 ⟨rfl, hL1⟩; have HL1 : Hid (RowKit.Below wr.heap.size wr w1) := (RowKit.Below.refl _ wr).drew.trans hL1; obtain ⟨⟨g0, g1, g2⟩, g3, g4, g5⟩ := HCL.out w1 HL1.out; clear hL1))
          all_goals
            have HBW : Hid (RowKit.Below W0.heap.size W0 w1) := HB.out.trans (HL1.out.mono HB.out.size)
            clear HB HL1 HCL HE' g0 g1 g2 g3 g4 g5 t0 t1 t2 q0 q1 q2 hbl hwl
            obtain ⟨hx0, hx1⟩ := hs
            simp only at hx0 hx1
            have hto := fun wx => HCU.out.to k hk0 wx
            obtain ⟨fo, hfr, hfn, hfa⟩ := HCU.out.from (k + 1) (by omega)
            have HFA : Hid (type_of% hfa) := hfa
            have HLK : Hid ((l.take k).length = k) := by show _ = _; rw [List.length_take]; omega
            have HLD : Hid ((l.drop (k + 1)).length = l.length - (k + 1)) := List.length_drop
            have HFN : Hid (fo = none → lc - (k + 1) = 0) := hfn
            clear hfa hfn
            go_wp2_with (at_builtin; refine wpList_append_arcs rfl _ _ rfl W0.heap.size (.slice none 0 0) [] rfl (World.ownsRow_nil _ _ _ _) (some ⟨b, off, none⟩) lc (l.take k) (by rw [HLK.out]; rfl) (by rw [HLK.out]; exact arcs_take (HK.out _ HBW.out).2.2 k hk0) HCU.out.le.2 (by rw [HLK.out]; simp; omega) HBW.out.size ?_; intro v2 w2 hown2 hgr2; rw [List.nil_append] at hown2; obtain ⟨so2, sc2, hv2⟩ := rowC_slice hown2; rw [HLK.out] at hv2; subst hv2; have HO2 : Hid (w2.ownsRow W0.heap.size 42 3 (.slice so2 k sc2) (l.take k).length (flatC (l.take k))) := hown2; have HB2 : Hid (RowKit.Below W0.heap.size W0 w2) := below_grown HBW.out (World.ownsRow_nil _ _ _ _) hgr2 HBW.out.size; obtain ⟨hbox2, _, hA2⟩ := HK.out w2 HB2.out; obtain ⟨u0, u1, u2⟩ : w2.cell? ⟨w.heap.size, 0, none⟩ = some (.int .i64 a0) ∧ w2.cell? ⟨w.heap.size, 1, none⟩ = some (.int .i64 a1) ∧ w2.cell? ⟨w.heap.size, 2, none⟩ = some (.int .i64 a2) := (by simp [World.cell?, hbox2]); have u3 : w2.frozen? ⟨w.heap.size, 2, none⟩ = false := (by simp [World.frozen?, hbox2]); have hwl2 : w.heap.size < w2.heap.size := lt_of_get hbox2; obtain ⟨b', off', e', _, s0, s1, s2⟩ := hA2.at HX.out; cases e'; clear hown2 hgr2 hbox2 hA2)
            have HO2b : Hid (∀ q v X, (((w2.drewN q).setCell ⟨w.heap.size, 2, none⟩ v).alloc X).ownsRow W0.heap.size 42 3 (.slice so2 k sc2) (l.take k).length (flatC (l.take k))) := fun q v X => by
              have hs := HS0.out
              refine rowC_keep (rowC_far HO2.out (fun g hg _ => ?_)) ((RowKit.Below.refl _ _).alloc (Nat.le_refl _) _)
              exact heap_setCell_other _ _ _ _ (by show g ≠ w.heap.size; omega)
            have HBb : Hid (∀ q v X, RowKit.Below w.heap.size w (((w2.drewN q).setCell ⟨w.heap.size, 2, none⟩ v).alloc X)) := fun q v X => by
              have h := (HK.out w2 HB2.out).2.1
              have h2 : RowKit.Below w.heap.size w (w2.drewN q) := ⟨h.os, h.tape, h.output, h.size, h.block⟩
              exact (h2.setCell (p := ⟨w.heap.size, 2, none⟩) (Nat.le_refl _) v).alloc (by simp; exact h.size) X
            have hk1 : ((k + 1 : Nat) : Int) = (k : Int) + 1 := by omega
            rw [hk1] at hfr
            clear hk1
            go_quiet (fail)
            go_wp2_with fail
            go_region
            go_wp2_with (at_builtin; first | (refine wpList_append_arcs rfl _ _ rfl W0.heap.size (.slice so2 k sc2) (l.take k) rfl (HO2b.out _ _ _) (some ⟨w2.heap.size, 0, none⟩) 1 [(a0, a1, min a2 x2)] rfl (by simpa using arcs_one ((w2.drewN _).setCell ⟨w.heap.size, 2, none⟩ (.int .i64 (min a2 x2))) (a0, a1, min a2 x2) 42) (fun e => by cases e) (by simp only [HLK.out, List.length_cons, List.length_nil]; omega) (by have := HB2.out.size; simp; omega) ?_; intro v3 w3 hown3 hgr3; obtain ⟨so3, sc3, hv3⟩ := rowC_slice hown3; have hv3' : v3 = .slice so3 (k + 1) sc3 := (by rw [hv3, List.length_append, HLK.out]; rfl); clear hv3; subst hv3'; have HO3 : Hid (w3.ownsRow W0.heap.size 42 3 (.slice so3 (k + 1) sc3) (l.take k ++ [(a0, a1, min a2 x2)]).length (flatC (l.take k ++ [(a0, a1, min a2 x2)]))) := hown3; have HB3 : Hid (RowKit.Below w.heap.size w w3 ∧ W0.heap.size ≤ w3.heap.size) := ⟨below_grown2 (HBb.out _ _ _) (HO2b.out _ _ _) hgr3 (HBb.out _ _ _).size (by have := HS0.out; omega), Nat.le_trans HB2.out.size (Nat.le_trans (by simp) hgr3.size)⟩; clear hown3 hgr3 u0 u1 u2 u3 hwl2 s0 s1 s2) | (refine wpList_append_arcs rfl _ _ rfl W0.heap.size (.slice so3 (k + 1) sc3) (l.take k ++ [(a0, a1, min a2 x2)]) rfl HO3.out fo (lc - (k + 1)) (l.drop (k + 1)) (by rw [HLD.out]; rfl) (by rw [HLD.out]; exact HFA.out _ l rfl (HL.out.keep HB3.out.1)) HFN.out (by simp only [List.length_append, HLK.out, HLD.out, List.length_cons, List.length_nil]; omega) HB3.out.2 ?_; intro v4 w4 hown4 hgr4; have HO4 : Hid (w4.ownsRow W0.heap.size 42 3 v4 (l.take k ++ [(a0, a1, min a2 x2)] ++ l.drop (k + 1)).length (flatC (l.take k ++ [(a0, a1, min a2 x2)] ++ l.drop (k + 1)))) := hown4; have HB4 : Hid (RowKit.Below w.heap.size w w4) := below_grown2 HB3.out.1 HO3.out hgr4 HB3.out.1.size (by have := HS0.out; omega); clear hown4 hgr4))
            go_wp2
            go_ret
            refine ⟨_, rfl, ?_, HB4.out⟩
            have h := HO4.out
            rw [HSQ.out, ← HS0.out]
            exact h
        · have HSQ : Hid (putA l (a0, a1, a2) = l.take k ++ [(a0, a1, a2)] ++ l.drop k) := hsq
          clear hsq
          go_wp2_with fail
          go_region_held3 (fun w' => w'.cell? ⟨b, off + k * 3, none⟩ = some (.int .i64 x0) ∧ w'.cell? ⟨b, off + k * 3 + 1, none⟩ = some (.int .i64 x1) ∧ w'.cell? ⟨b, off + k * 3 + 2, none⟩ = some (.int .i64 x2) ∧ w'.cell? ⟨w.heap.size, 0, none⟩ = some (.int .i64 a0) ∧ w'.cell? ⟨w.heap.size, 1, none⟩ = some (.int .i64 a1) ∧ w'.cell? ⟨w.heap.size, 2, none⟩ = some (.int .i64 a2)) (go_keep) (first
            | (go_at_call 55; refine (HE'.out _).mono ?_; rintro e w1 ⟨rfl, hL1⟩; have HL1 : Hid (RowKit.Below wr.heap.size wr w1) := (RowKit.Below.refl _ wr).drew.trans hL1; obtain ⟨⟨g0, g1, g2⟩, g3, g4, g5⟩ := HCL.out w1 HL1.out; clear hL1))
          all_goals
            have HBW : Hid (RowKit.Below W0.heap.size W0 w1) := HB.out.trans (HL1.out.mono HB.out.size)
            clear HB HL1 HCL HE' g0 g1 g2 g3 g4 g5 t0 t1 t2 q0 q1 q2 hbl hwl
            by_cases hx0 : x0 = a0
            · have hx1 : ¬ x1 = a1 := fun h => hs ⟨hx0, h⟩
              clear hs
              have hto := fun wx => HCU.out.to k hk0 wx
              obtain ⟨fo, hfr, hfn, hfa⟩ := HCU.out.from k hk0
              have HFA : Hid (type_of% hfa) := hfa
              have HLK : Hid ((l.take k).length = k) := by show _ = _; rw [List.length_take]; omega
              have HLD : Hid ((l.drop k).length = l.length - k) := List.length_drop
              have HFN : Hid (fo = none → lc - k = 0) := hfn
              clear hfa hfn
              go_wp2_with (at_builtin; refine wpList_append_arcs rfl _ _ rfl W0.heap.size (.slice none 0 0) [] rfl (World.ownsRow_nil _ _ _ _) (some ⟨b, off, none⟩) lc (l.take k) (by rw [HLK.out]; rfl) (by rw [HLK.out]; exact arcs_take (HK.out _ HBW.out).2.2 k hk0) HCU.out.le.2 (by rw [HLK.out]; simp; omega) HBW.out.size ?_; intro v2 w2 hown2 hgr2; rw [List.nil_append] at hown2; obtain ⟨so2, sc2, hv2⟩ := rowC_slice hown2; rw [HLK.out] at hv2; subst hv2; have HO2 : Hid (w2.ownsRow W0.heap.size 42 3 (.slice so2 k sc2) (l.take k).length (flatC (l.take k))) := hown2; have HB2 : Hid (RowKit.Below W0.heap.size W0 w2) := below_grown HBW.out (World.ownsRow_nil _ _ _ _) hgr2 HBW.out.size; obtain ⟨hbox2, _, hA2⟩ := HK.out w2 HB2.out; obtain ⟨u0, u1, u2⟩ : w2.cell? ⟨w.heap.size, 0, none⟩ = some (.int .i64 a0) ∧ w2.cell? ⟨w.heap.size, 1, none⟩ = some (.int .i64 a1) ∧ w2.cell? ⟨w.heap.size, 2, none⟩ = some (.int .i64 a2) := (by simp [World.cell?, hbox2]); have hwl2 : w.heap.size < w2.heap.size := lt_of_get hbox2; obtain ⟨b', off', e', _, s0, s1, s2⟩ := hA2.at HX.out; cases e'; clear hown2 hgr2 hbox2 hA2)
              go_quiet (fail)
              go_wp2_with (at_builtin; first | (refine wpList_append_arcs rfl _ _ rfl W0.heap.size (.slice so2 k sc2) (l.take k) rfl (rowC_keep HO2.out (below_dalloc w2 _ _)) (some ⟨w2.heap.size, 0, none⟩) 1 [(a0, a1, a2)] rfl (arcs_one (w2.drewN _) (a0, a1, a2) 42) (fun e => by cases e) (by simp only [HLK.out, List.length_cons, List.length_nil]; omega) (Nat.le_trans HB2.out.size (below_dalloc w2 _ _).size) ?_; intro v3 w3 hown3 hgr3; obtain ⟨so3, sc3, hv3⟩ := rowC_slice hown3; have hv3' : v3 = .slice so3 (k + 1) sc3 := (by rw [hv3, List.length_append, HLK.out]; rfl); clear hv3; subst hv3'; have HO3 : Hid (w3.ownsRow W0.heap.size 42 3 (.slice so3 (k + 1) sc3) (l.take k ++ [(a0, a1, a2)]).length (flatC (l.take k ++ [(a0, a1, a2)]))) := hown3; have HB3 : Hid (RowKit.Below W0.heap.size W0 w3) := below_grown (HB2.out.trans ((below_dalloc w2 _ _).mono HB2.out.size)) (rowC_keep HO2.out (below_dalloc w2 _ _)) hgr3 (Nat.le_trans HB2.out.size (below_dalloc w2 _ _).size); clear hown3 hgr3 u0 u1 u2 hwl2 s0 s1 s2) | (refine wpList_append_arcs rfl _ _ rfl W0.heap.size (.slice so3 (k + 1) sc3) (l.take k ++ [(a0, a1, a2)]) rfl HO3.out fo (lc - k) (l.drop k) (by rw [HLD.out]; rfl) (by rw [HLD.out]; exact HFA.out _ l rfl (HK.out _ HB3.out).2.2) HFN.out (by simp only [List.length_append, HLK.out, HLD.out, List.length_cons, List.length_nil]; omega) HB3.out.size ?_; intro v4 w4 hown4 hgr4; have HO4 : Hid (w4.ownsRow W0.heap.size 42 3 v4 (l.take k ++ [(a0, a1, a2)] ++ l.drop k).length (flatC (l.take k ++ [(a0, a1, a2)] ++ l.drop k))) := hown4; have HB4 : Hid (RowKit.Below W0.heap.size W0 w4) := below_grown HB3.out HO3.out hgr4 HB3.out.size; clear hown4 hgr4))
              go_wp2
              go_ret
              refine ⟨_, rfl, ?_, (HK.out w4 HB4.out).2.1⟩
              have h := HO4.out
              rw [HSQ.out, ← HS0.out]
              exact h
            · clear hs
              have hto := fun wx => HCU.out.to k hk0 wx
              obtain ⟨fo, hfr, hfn, hfa⟩ := HCU.out.from k hk0
              have HFA : Hid (type_of% hfa) := hfa
              have HLK : Hid ((l.take k).length = k) := by show _ = _; rw [List.length_take]; omega
              have HLD : Hid ((l.drop k).length = l.length - k) := List.length_drop
              have HFN : Hid (fo = none → lc - k = 0) := hfn
              clear hfa hfn
              go_wp2_with (at_builtin; refine wpList_append_arcs rfl _ _ rfl W0.heap.size (.slice none 0 0) [] rfl (World.ownsRow_nil _ _ _ _) (some ⟨b, off, none⟩) lc (l.take k) (by rw [HLK.out]; rfl) (by rw [HLK.out]; exact arcs_take (HK.out _ HBW.out).2.2 k hk0) HCU.out.le.2 (by rw [HLK.out]; simp; omega) HBW.out.size ?_; intro v2 w2 hown2 hgr2; rw [List.nil_append] at hown2; obtain ⟨so2, sc2, hv2⟩ := rowC_slice hown2; rw [HLK.out] at hv2; subst hv2; have HO2 : Hid (w2.ownsRow W0.heap.size 42 3 (.slice so2 k sc2) (l.take k).length (flatC (l.take k))) := hown2; have HB2 : Hid (RowKit.Below W0.heap.size W0 w2) := below_grown HBW.out (World.ownsRow_nil _ _ _ _) hgr2 HBW.out.size; obtain ⟨hbox2, _, hA2⟩ := HK.out w2 HB2.out; obtain ⟨u0, u1, u2⟩ : w2.cell? ⟨w.heap.size, 0, none⟩ = some (.int .i64 a0) ∧ w2.cell? ⟨w.heap.size, 1, none⟩ = some (.int .i64 a1) ∧ w2.cell? ⟨w.heap.size, 2, none⟩ = some (.int .i64 a2) := (by simp [World.cell?, hbox2]); have hwl2 : w.heap.size < w2.heap.size := lt_of_get hbox2; obtain ⟨b', off', e', _, s0, s1, s2⟩ := hA2.at HX.out; cases e'; clear hown2 hgr2 hbox2 hA2)
              go_quiet (fail)
              go_wp2_with (at_builtin; first | (refine wpList_append_arcs rfl _ _ rfl W0.heap.size (.slice so2 k sc2) (l.take k) rfl (rowC_keep HO2.out (below_dalloc w2 _ _)) (some ⟨w2.heap.size, 0, none⟩) 1 [(a0, a1, a2)] rfl (arcs_one (w2.drewN _) (a0, a1, a2) 42) (fun e => by cases e) (by simp only [HLK.out, List.length_cons, List.length_nil]; omega) (Nat.le_trans HB2.out.size (below_dalloc w2 _ _).size) ?_; intro v3 w3 hown3 hgr3; obtain ⟨so3, sc3, hv3⟩ := rowC_slice hown3; have hv3' : v3 = .slice so3 (k + 1) sc3 := (by rw [hv3, List.length_append, HLK.out]; rfl); clear hv3; subst hv3'; have HO3 : Hid (w3.ownsRow W0.heap.size 42 3 (.slice so3 (k + 1) sc3) (l.take k ++ [(a0, a1, a2)]).length (flatC (l.take k ++ [(a0, a1, a2)]))) := hown3; have HB3 : Hid (RowKit.Below W0.heap.size W0 w3) := below_grown (HB2.out.trans ((below_dalloc w2 _ _).mono HB2.out.size)) (rowC_keep HO2.out (below_dalloc w2 _ _)) hgr3 (Nat.le_trans HB2.out.size (below_dalloc w2 _ _).size); clear hown3 hgr3 u0 u1 u2 hwl2 s0 s1 s2) | (refine wpList_append_arcs rfl _ _ rfl W0.heap.size (.slice so3 (k + 1) sc3) (l.take k ++ [(a0, a1, a2)]) rfl HO3.out fo (lc - k) (l.drop k) (by rw [HLD.out]; rfl) (by rw [HLD.out]; exact HFA.out _ l rfl (HK.out _ HB3.out).2.2) HFN.out (by simp only [List.length_append, HLK.out, HLD.out, List.length_cons, List.length_nil]; omega) HB3.out.size ?_; intro v4 w4 hown4 hgr4; have HO4 : Hid (w4.ownsRow W0.heap.size 42 3 v4 (l.take k ++ [(a0, a1, a2)] ++ l.drop k).length (flatC (l.take k ++ [(a0, a1, a2)] ++ l.drop k))) := hown4; have HB4 : Hid (RowKit.Below W0.heap.size W0 w4) := below_grown HB3.out HO3.out hgr4 HB3.out.size; clear hown4 hgr4))
              go_wp2
              go_ret
              refine ⟨_, rfl, ?_, (HK.out w4 HB4.out).2.1⟩
              have h := HO4.out
              rw [HSQ.out, ← HS0.out]
              exact h
    · obtain rfl : k = k0 := by omega
      have HBW : Hid (∀ q, RowKit.Below W0.heap.size W0 (wr.drewN q)) := fun q => ⟨HB.out.os, HB.out.tape, HB.out.output, HB.out.size, HB.out.block⟩
      have b1 : ¬ (k : Int) < (l.length : Int) := by omega
      have HSQ : Hid (putA l (a0, a1, a2) = l.take k ++ [(a0, a1, a2)] ++ l.drop k) := by
        rcases HSP.out with ⟨_, h⟩ | ⟨b, hb, _⟩
        · exact h
        · exact absurd (List.getElem?_eq_some_iff.1 hb).1 hlt
      clear HSP HLE HB hA
      go_wp2_with fail
      go_quiet (fail)
      have hto := fun wx => HCU.out.to k hk0 wx
      obtain ⟨fo, hfr, hfn, hfa⟩ := HCU.out.from k hk0
      have HFA : Hid (type_of% hfa) := hfa
      have HLK : Hid ((l.take k).length = k) := by show _ = _; rw [List.length_take]; omega
      have HLD : Hid ((l.drop k).length = l.length - k) := List.length_drop
      have HFN : Hid (fo = none → lc - k = 0) := hfn
      clear hfa hfn
      go_wp2_with (at_builtin; refine wpList_append_arcs rfl _ _ rfl W0.heap.size (.slice none 0 0) [] rfl (World.ownsRow_nil _ _ _ _) lo lc (l.take k) (by rw [HLK.out]; rfl) (by rw [HLK.out]; exact arcs_take (HK.out _ (HBW.out _)).2.2 k hk0) HCU.out.le.2 (by rw [HLK.out]; simp; omega) (HBW.out 0).size ?_; intro v2 w2 hown2 hgr2; rw [List.nil_append] at hown2; obtain ⟨so2, sc2, hv2⟩ := rowC_slice hown2; rw [HLK.out] at hv2; subst hv2; have HO2 : Hid (w2.ownsRow W0.heap.size 42 3 (.slice so2 k sc2) (l.take k).length (flatC (l.take k))) := hown2; have HB2 : Hid (RowKit.Below W0.heap.size W0 w2) := below_grown (HBW.out _) (World.ownsRow_nil _ _ _ _) hgr2 (HBW.out 0).size; obtain ⟨hbox2, _, hA2⟩ := HK.out w2 HB2.out; obtain ⟨u0, u1, u2⟩ : w2.cell? ⟨w.heap.size, 0, none⟩ = some (.int .i64 a0) ∧ w2.cell? ⟨w.heap.size, 1, none⟩ = some (.int .i64 a1) ∧ w2.cell? ⟨w.heap.size, 2, none⟩ = some (.int .i64 a2) := (by simp [World.cell?, hbox2]); have hwl2 : w.heap.size < w2.heap.size := lt_of_get hbox2; clear hown2 hgr2 hbox2 t0 t1 t2 hA2)
      go_quiet (fail)
      go_wp2_with (at_builtin; first | (refine wpList_append_arcs rfl _ _ rfl W0.heap.size (.slice so2 k sc2) (l.take k) rfl (rowC_keep HO2.out (below_dalloc w2 _ _)) (some ⟨w2.heap.size, 0, none⟩) 1 [(a0, a1, a2)] rfl (arcs_one (w2.drewN _) (a0, a1, a2) 42) (fun e => by cases e) (by simp only [HLK.out, List.length_cons, List.length_nil]; omega) (Nat.le_trans HB2.out.size (below_dalloc w2 _ _).size) ?_; intro v3 w3 hown3 hgr3; obtain ⟨so3, sc3, hv3⟩ := rowC_slice hown3; have hv3' : v3 = .slice so3 (k + 1) sc3 := (by rw [hv3, List.length_append, HLK.out]; rfl); clear hv3; subst hv3'; have HO3 : Hid (w3.ownsRow W0.heap.size 42 3 (.slice so3 (k + 1) sc3) (l.take k ++ [(a0, a1, a2)]).length (flatC (l.take k ++ [(a0, a1, a2)]))) := hown3; have HB3 : Hid (RowKit.Below W0.heap.size W0 w3) := below_grown (HB2.out.trans ((below_dalloc w2 _ _).mono HB2.out.size)) (rowC_keep HO2.out (below_dalloc w2 _ _)) hgr3 (Nat.le_trans HB2.out.size (below_dalloc w2 _ _).size); clear hown3 hgr3 u0 u1 u2 hwl2) | (refine wpList_append_arcs rfl _ _ rfl W0.heap.size (.slice so3 (k + 1) sc3) (l.take k ++ [(a0, a1, a2)]) rfl HO3.out fo (lc - k) (l.drop k) (by rw [HLD.out]; rfl) (by rw [HLD.out]; exact HFA.out _ l rfl (HK.out _ HB3.out).2.2) HFN.out (by simp only [List.length_append, HLK.out, HLD.out, List.length_cons, List.length_nil]; omega) HB3.out.size ?_; intro v4 w4 hown4 hgr4; have HO4 : Hid (w4.ownsRow W0.heap.size 42 3 v4 (l.take k ++ [(a0, a1, a2)] ++ l.drop k).length (flatC (l.take k ++ [(a0, a1, a2)] ++ l.drop k))) := hown4; have HB4 : Hid (RowKit.Below W0.heap.size W0 w4) := below_grown HB3.out HO3.out hgr4 HB3.out.size; clear hown4 hgr4))
      go_wp2
      go_ret
      refine ⟨_, rfl, ?_, (HK.out w4 HB4.out).2.1⟩
      have h := HO4.out
      rw [HSQ.out, ← HS0.out]
      exact h
end Go.Proofs.Ytbfopkhdngfanaa
