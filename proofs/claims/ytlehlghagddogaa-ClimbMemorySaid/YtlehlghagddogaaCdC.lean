/- viaductref20.DocUp and DocDown at every hierarchy and every number, and climb.Up and Down told the same way. (gencx.py) -/
import Derived.Test.YtlehlghagddogaaCdB
import Derived.Test.YtlehlghagddogaaHdH
namespace Go.Proofs.Ytlehlghagddogaa.Cb
open Go.RowKit Go.Extern Go.Shelf Hi

attribute [local go_sem] Oper.semAt_some

/-- what is answered for a hierarchy and a number: nothing and the error, or a list. -/
def Ans (h : Hr) (s : Int) (L : Nat → List (Nat × Int × Bool)) (X : List (Nat × Int × Bool)) (E : Int × List (Int × Int)) : Prop := (Refuses h s ∧ X = [] ∧ E = cErr h) ∨ (¬ Refuses h s ∧ X = L s.toNat ∧ E = (0, []))
theorem Ans.one {h : Hr} {s : Int} {L : Nat → List (Nat × Int × Bool)} {X Y : List (Nat × Int × Bool)} {E F : Int × List (Int × Int)} (a : Ans h s L X E) (b : Ans h s L Y F) : X = Y ∧ E = F := by
  rcases a with ⟨a1, rfl, rfl⟩ | ⟨a1, rfl, rfl⟩ <;> rcases b with ⟨b1, rfl, rfl⟩ | ⟨b1, rfl, rfl⟩
  · exact ⟨rfl, rfl⟩
  · exact absurd a1 b1
  · exact absurd b1 a1
  · exact ⟨rfl, rfl⟩
/-- a list and an error of the reference. -/
def DA (w : World) (X : List (Nat × Int × Bool)) (E : Int × List (Int × Int)) (e : Ending) (w' : World) : Prop := ∃ (mo : Option Addr) (mc : Nat) (lo : Option Addr) (lc : Nat), e = .returned (.tuple #[.slice mo X.length mc, .agg #[.int .i64 E.1, .slice lo E.2.length lc]]) ∧ w'.ownsRow w.heap.size 49 3 (.slice mo X.length mc) X.length (snv X) ∧ HasPlaces w' (.slice lo E.2.length lc) E.2 ∧ Below w.heap.size w w'
/-- what DocUp or DocDown answers. -/
def UA (h : Hr) (s : Int) (L : Nat → List (Nat × Int × Bool)) (w : World) (e : Ending) (w' : World) : Prop := ∃ X E, Ans h s L X E ∧ DA w X E e w'
theorem reach_chk {h : Hr} (hc : chk h = (0, [])) : Hi.Reach h := by
  obtain ⟨k1, k2, k3, k4, _⟩ := chk_ok hc
  constructor <;> omega
theorem docUp_res {W : World} {z : Nat} {x0 x1 u : Value} {tmps : Array Value} (h1 : W.heap[z]? = some (.cells #[x0, x1] 42)) (t5 : tmps[5]?.getD undef = .pointer (some ⟨z, 0, none⟩)) (t4 : tmps[4]?.getD undef = u) :
    (results Try.f10 tmps).run Try.prog W = .ok (.tuple #[u, .agg #[x0, x1]]) W := by
  have c0 : W.cell? ⟨z, 0, none⟩ = some x0 := by simp [World.cell?, h1]
  have c1 : W.cell? ⟨z, 1, none⟩ = some x1 := by simp [World.cell?, h1]
  simp [results, Try.results10, go_sem, t4, t5, c0, c1]

set_option maxRecDepth 100000 in
set_option maxHeartbeats 8000000 in
theorem docUp_aux (no uo ul wo dl : Option Addr) (nc uc ulc wc dlc : Nat) (h : Hr) (s : Int) (w : World) (hH : HasH w ⟨no, uo, ul, wo, dl, nc, uc, ulc, wc, dlc⟩ h) (hb1 : h.up.length ≤ 1152921504606846976) (hb2 : h.dn.length ≤ 1152921504606846976) (hb3 : h.node.length ≤ 1152921504606846976) :
    Calls Try.prog 10 #[hvl ⟨no, uo, ul, wo, dl, nc, uc, ulc, wc, dlc⟩ h, .int .i64 s] w fun e w' => UA h s (upL h) w e w' := by
  obtain ⟨z, hz⟩ : ∃ z, w.heap.size = z := ⟨_, rfl⟩
  obtain ⟨W0, hW0⟩ : ∃ W0, (w.alloc (.cells #[.slice no h.node.length nc, .slice uo h.upF.length uc, .slice ul h.up.length ulc, .slice wo h.dnF.length wc, .slice dl h.dn.length dlc] 25)).alloc (.cells #[.int .i64 0, .slice none 0 0] 42) = W0 := ⟨_, rfl⟩
  have hB0 : Below w.heap.size w W0 := by rw [← hW0]; exact ((Below.refl _ w).alloc (Nat.le_refl _) _).alloc (by simp) _
  have h0 : W0.heap[z]? = some (.cells #[.slice no h.node.length nc, .slice uo h.upF.length uc, .slice ul h.up.length ulc, .slice wo h.dnF.length wc, .slice dl h.dn.length dlc] 25) := by
    rw [← hW0, ← hz]; exact (Below.heap_alloc _ _ _ (by simp)).trans (heap_newW _ _)
  have h1 : W0.heap[z + 1]? = some (.cells #[.int .i64 0, .slice none 0 0] 42) := by
    have g := heap_newW (w.alloc (.cells #[.slice no h.node.length nc, .slice uo h.upF.length uc, .slice ul h.up.length ulc, .slice wo h.dnF.length wc, .slice dl h.dn.length dlc] 25)) (.cells #[.int .i64 0, .slice none 0 0] 42)
    rw [World.size_alloc, hW0, hz] at g
    exact g
  have HS0 : Hid (z + 1 < W0.heap.size) := some_lt h1
  have HQ : Hid (∀ wx, Below W0.heap.size W0 wx → wx.heap[z]? = some (.cells #[.slice no h.node.length nc, .slice uo h.upF.length uc, .slice ul h.up.length ulc, .slice wo h.dnF.length wc, .slice dl h.dn.length dlc] 25) ∧ wx.heap[z + 1]? = some (.cells #[.int .i64 0, .slice none 0 0] 42) ∧ HasH wx ⟨no, uo, ul, wo, dl, nc, uc, ulc, wc, dlc⟩ h ∧ Below w.heap.size w wx) := fun wx hx => by
    have g := hB0.trans (hx.mono hB0.size)
    exact ⟨(hx.block _ (some_lt h0)).trans h0, (hx.block _ (some_lt h1)).trans h1, hH.keep g, g⟩
  have HSZ : Hid (∀ (wx : World) (x y : Value), Below w.heap.size w wx → Below w.heap.size w ((wx.setCell ⟨z + 1, 0, none⟩ x).setCell ⟨z + 1, 1, none⟩ y)) := fun wx x y hx => (hx.setCell (p := ⟨z + 1, 0, none⟩) (by show w.heap.size ≤ z + 1; omega) _).setCell (p := ⟨z + 1, 1, none⟩) (by show w.heap.size ≤ z + 1; omega) _
  have HZQ : Hid (∀ q, W0.heap.size ≤ q → q ≠ z + 1 ∧ q ≠ z) := fun q hq => by have := HS0.out; omega
  have HW0 : Hid ((w.alloc (.cells #[.slice no h.node.length nc, .slice uo h.upF.length uc, .slice ul h.up.length ulc, .slice wo h.dnF.length wc, .slice dl h.dn.length dlc] 25)).alloc (.cells #[.int .i64 0, .slice none 0 0] 42) = W0) := hW0
  have HB0 : Hid (Below W0.heap.size W0 W0) := Below.refl _ _
  have HDC : Hid (∀ wx, Below W0.heap.size W0 wx → Calls Try.prog 22 #[hvl ⟨no, uo, ul, wo, dl, nc, uc, ulc, wc, dlc⟩ h] wx fun e w' => RA wx (chk h) e w') := fun wx hx => docCheck10_calls _ h wx (HQ.out wx hx).2.2.1 hb1 hb2 hb3
  have HUP : Hid (chk h = (0, []) → ∀ s' : Nat, s' < h.node.length → ∀ wx, HasH wx ⟨no, uo, ul, wo, dl, nc, uc, ulc, wc, dlc⟩ h → Calls Try.prog 25 #[hvl ⟨no, uo, ul, wo, dl, nc, uc, ulc, wc, dlc⟩ h, .int .i64 (s' : Int)] wx fun e w' => ∃ (mo : Option Addr) (mc : Nat) (X : List (Nat × Int × Bool)), X = upL h s' ∧ e = .returned (.slice mo X.length mc) ∧ w'.ownsRow wx.heap.size 49 3 (.slice mo X.length mc) X.length (snv X) ∧ Below wx.heap.size wx w') := fun hc s' hs => fun wx hx => rUp_calls _ h s' wx hx hc hs
  clear hW0 h0 h1 hB0 hH
  unfold hvl at HDC HUP ⊢
  simp only at HDC HUP ⊢
  go_enter Try.func10, Try.ntmps10
  go_upto_region 1 with fail
  rw [HW0.out]
  clear HW0 hz
  obtain ⟨c0, c1, c2, c3, c4⟩ := five_cells (HQ.out W0 HB0.out).1
  go_wp2_with fail
  refine (HDC.out W0 HB0.out).mono ?_
  rintro e w1 ⟨lo, lc, rfl, hp, hb⟩
  obtain ⟨E, hE⟩ : ∃ E, chk h = E := ⟨_, rfl⟩
  have HE : Hid (chk h = E) := hE
  rw [hE] at hp ⊢
  obtain ⟨q, hq⟩ : ∃ q, w1.heap.size = q := ⟨_, rfl⟩
  obtain ⟨W2, hW2⟩ : ∃ W2, w1.alloc (.cells #[.int .i64 E.1, .slice lo E.2.length lc] 42) = W2 := ⟨_, rfl⟩
  have HW2 : Hid (w1.alloc (.cells #[.int .i64 E.1, .slice lo E.2.length lc] 42) = W2) := hW2
  have H2 : Hid (∀ wx, Below W2.heap.size W2 wx → wx.heap[q]? = some (.cells #[.int .i64 E.1, .slice lo E.2.length lc] 42) ∧ HasPlaces wx (.slice lo E.2.length lc) E.2 ∧ Below W0.heap.size W0 wx) := fun wx hx => by
    have g1 : W2.heap[q]? = some (.cells #[.int .i64 E.1, .slice lo E.2.length lc] 42) := by rw [← hW2, ← hq]; exact heap_newW _ _
    have g2 : Below w1.heap.size w1 W2 := by rw [← hW2]; exact (Below.refl _ _).alloc (Nat.le_refl _) _
    have g3 := btrH' g2 hx
    exact ⟨(hx.block _ (some_lt g1)).trans g1, hp.keep g3, btrH' hb g3⟩
  have HQ0 : Hid (W0.heap.size ≤ q ∧ q < W2.heap.size) := ⟨by rw [← hq]; exact hb.size, by rw [← hW2, ← hq]; simp⟩
  clear hp hb hW2 c0 c1 c2 c3 c4 hE
  go_upto_region 2 with fail
  rw [HW2.out]
  clear HW2 hq
  obtain ⟨q0, q1, _, _⟩ := cell_two (H2.out W2 (Below.refl _ _)).1
  go_wp2_with fail
  refine (Hi.bad_calls E.1 lo E.2.length lc W2).mono ?_
  rintro e w3 ⟨rfl, hb⟩
  rw [bad_iff]
  have HB3 : Hid (Below W2.heap.size W2 w3) := hb
  clear hb q0 q1
  obtain ⟨q0, q1, f0, f1⟩ := cell_two (H2.out w3 HB3.out).1
  obtain ⟨c0, c1, c2, c3, c4⟩ := five_cells (HQ.out w3 (H2.out w3 HB3.out).2.2).1
  by_cases hc : E = (0, [])
  · have j1 : decide (E = (0, [])) = true := by simpa using hc
    have HE0 : Hid (E = (0, [])) := hc
    clear hc
    by_cases hneg : s < 0
    · have HRF : Hid (Ans h s (upL h) [] (7, [])) := Or.inl ⟨Or.inr (Or.inl hneg), rfl, (cErr_no (by rw [HE.out]; exact HE0.out)).symm⟩
      have i1 : decide (s < 0) = true := by simpa using hneg
      clear hneg
      go_wp2_with fail
      refine (E_calls 7 w3).mono ?_
      rintro e w4 ⟨rfl, hb⟩
      have HB4 : Hid (Below W2.heap.size W2 w4) := btrH' HB3.out hb
      clear hb q0 q1 f0 f1 c0 c1 c2 c3 c4
      obtain ⟨q0, q1, f0, f1⟩ := cell_two (H2.out w4 HB4.out).1
      obtain ⟨W5, hW5⟩ : ∃ W5, (w4.setCell ⟨q, 0, none⟩ (.int .i64 7)).setCell ⟨q, 1, none⟩ (.slice none 0 0) = W5 := ⟨_, rfl⟩
      have HW5 : Hid ((w4.setCell ⟨q, 0, none⟩ (.int .i64 7)).setCell ⟨q, 1, none⟩ (.slice none 0 0) = W5) := hW5
      have HF5 : Hid (∀ wx, Below W5.heap.size W5 wx → wx.heap[q]? = some (.cells #[.int .i64 7, .slice none 0 0] 42) ∧ HasPlaces wx (.slice none 0 0) [] ∧ wx.heap[z]? = some (.cells #[.slice no h.node.length nc, .slice uo h.upF.length uc, .slice ul h.up.length ulc, .slice wo h.dnF.length wc, .slice dl h.dn.length dlc] 25) ∧ wx.heap[z + 1]? = some (.cells #[.int .i64 0, .slice none 0 0] 42) ∧ Below w.heap.size w wx) := fun wx hx => by
        obtain ⟨g1, g2, g3⟩ := H2.out w4 HB4.out
        obtain ⟨a1, a2, _, a4⟩ := HQ.out w4 g3
        obtain ⟨n1, n2⟩ := HZQ.out q HQ0.out.1
        have e1 : W5.heap[q]? = some (.cells #[.int .i64 7, .slice none 0 0] 42) := by rw [← hW5]; exact set_err g1 _ _
        have e2 : W5.heap[z]? = some (.cells #[.slice no h.node.length nc, .slice uo h.upF.length uc, .slice ul h.up.length ulc, .slice wo h.dnF.length wc, .slice dl h.dn.length dlc] 25) := by rw [← hW5]; exact (Below.heap_setCell _ _ _ _ (Ne.symm n2)).trans ((Below.heap_setCell _ _ _ _ (Ne.symm n2)).trans a1)
        have e3 : W5.heap[z + 1]? = some (.cells #[.int .i64 0, .slice none 0 0] 42) := by rw [← hW5]; exact (Below.heap_setCell _ _ _ _ (Ne.symm n1)).trans ((Below.heap_setCell _ _ _ _ (Ne.symm n1)).trans a2)
        have hwq : w.heap.size ≤ q := Nat.le_trans (HQ.out W0 HB0.out).2.2.2.size HQ0.out.1
        have e4 : Below w.heap.size w W5 := by rw [← hW5]; exact (a4.setCell (p := ⟨q, 0, none⟩) hwq _).setCell (p := ⟨q, 1, none⟩) hwq _
        exact ⟨(hx.block _ (some_lt e1)).trans e1, pl_nil _, (hx.block _ (some_lt e2)).trans e2, (hx.block _ (some_lt e3)).trans e3, e4.trans (hx.mono e4.size)⟩
      clear hW5
      go_upto_region 4 with fail
      rw [HW5.out]
      clear HW5 q0 q1 f0 f1
      obtain ⟨q0, q1, _, _⟩ := cell_two (HF5.out W5 (Below.refl _ _)).1
      go_wp2_with fail
      refine (Hi.bad_calls 7 none 0 0 W5).mono ?_
      rintro e w6 ⟨rfl, hb⟩
      have HB6 : Hid (Below W5.heap.size W5 w6) := hb
      clear hb q0 q1
      have HF4 : Hid (∀ wx, Below w6.heap.size w6 wx → wx.heap[q]? = some (.cells #[.int .i64 7, .slice none 0 0] 42) ∧ HasPlaces wx (.slice none 0 0) [] ∧ wx.heap[z]? = some (.cells #[.slice no h.node.length nc, .slice uo h.upF.length uc, .slice ul h.up.length ulc, .slice wo h.dnF.length wc, .slice dl h.dn.length dlc] 25) ∧ wx.heap[z + 1]? = some (.cells #[.int .i64 0, .slice none 0 0] 42) ∧ Below w.heap.size w wx) := fun wx hx => HF5.out wx (btrH' HB6.out hx)
      obtain ⟨q0, q1, _, _⟩ := cell_two (HF4.out w6 (Below.refl _ _)).1
      go_wp2_with fail
      have HSS : Hid (∀ wx : World, (wx.heap[z]? = some (.cells #[.slice no h.node.length nc, .slice uo h.upF.length uc, .slice ul h.up.length ulc, .slice wo h.dnF.length wc, .slice dl h.dn.length dlc] 25) ∧ wx.heap[q]? = some (.cells #[.int .i64 7, .slice none 0 0] 42)) → (fun w' => w'.cell? ⟨z, 0, none⟩ = some (.slice no h.node.length nc) ∧ w'.cell? ⟨z, 1, none⟩ = some (.slice uo h.upF.length uc) ∧ w'.cell? ⟨z, 2, none⟩ = some (.slice ul h.up.length ulc) ∧ w'.cell? ⟨z, 3, none⟩ = some (.slice wo h.dnF.length wc) ∧ w'.cell? ⟨z, 4, none⟩ = some (.slice dl h.dn.length dlc) ∧ w'.cell? ⟨q, 0, none⟩ = some (.int .i64 7) ∧ w'.cell? ⟨q, 1, none⟩ = some (.slice none 0 0) ∧ Hid (w'.heap[z]? = some (.cells #[.slice no h.node.length nc, .slice uo h.upF.length uc, .slice ul h.up.length ulc, .slice wo h.dnF.length wc, .slice dl h.dn.length dlc] 25) ∧ w'.heap[q]? = some (.cells #[.int .i64 7, .slice none 0 0] 42))) wx) := fun wx hx => by
        obtain ⟨a0, a1, a2, a3, a4⟩ := five_cells hx.1
        obtain ⟨b0, b1, _, _⟩ := cell_two hx.2
        exact ⟨a0, a1, a2, a3, a4, b0, b1, hx⟩
      clear q0 q1
      refine wp_region_M (S := (fun w' => w'.cell? ⟨z, 0, none⟩ = some (.slice no h.node.length nc) ∧ w'.cell? ⟨z, 1, none⟩ = some (.slice uo h.upF.length uc) ∧ w'.cell? ⟨z, 2, none⟩ = some (.slice ul h.up.length ulc) ∧ w'.cell? ⟨z, 3, none⟩ = some (.slice wo h.dnF.length wc) ∧ w'.cell? ⟨z, 4, none⟩ = some (.slice dl h.dn.length dlc) ∧ w'.cell? ⟨q, 0, none⟩ = some (.int .i64 7) ∧ w'.cell? ⟨q, 1, none⟩ = some (.slice none 0 0) ∧ Hid (w'.heap[z]? = some (.cells #[.slice no h.node.length nc, .slice uo h.upF.length uc, .slice ul h.up.length ulc, .slice wo h.dnF.length wc, .slice dl h.dn.length dlc] 25) ∧ w'.heap[q]? = some (.cells #[.int .i64 7, .slice none 0 0] 42)))) (by kernel_rfl) (HSS.out _ ⟨(HF4.out _ (Below.refl _ _).drew).2.2.1, (HF4.out _ (Below.refl _ _).drew).1⟩) ?_
      refine wpAnyM_take (i := 0) (oi := { dst := Option.some 26, op := Op.load 42 (Operand.tmp 6), type := 42, pos := "ref.go:62", after := #[{ on := 1, ground := Ground.gcOnly Departure.lateStores }], guard := Option.none }) (v := ?ve3z0) rfl (by kernel_rfl) (by kernel_rfl) (by kernel_rfl) (fun _ _ _ h => h) (YieldsM.of_if (Or.inl ⟨by rfl, ?he3z0⟩)) ?re3z0
      case he3z0 => ((intro wz hSw; (try dsimp only at hSw); go_simp); try (with_reducible rfl))
      try simp only [Act.put, List.setIfInBounds_toArray, List.set_cons_zero, List.set_cons_succ]
      refine wpAnyM_take (i := 1) (oi := { dst := Option.some 4, op := Op.assign (Operand.const (Value.slice Option.none 0 0)), type := 39, pos := "ref.go:62", after := #[{ on := 0, ground := Ground.textOnly Departure.lateStores }], guard := Option.none }) (v := ?ve4z1) rfl (by kernel_rfl) (by kernel_rfl) (by kernel_rfl) (fun _ _ _ h => h) (YieldsM.of_if (Or.inl ⟨by rfl, ?he4z1⟩)) ?re4z1
      case he4z1 => ((intro wz hSw; (try dsimp only at hSw); go_simp); try (with_reducible rfl))
      try simp only [Act.put, List.setIfInBounds_toArray, List.set_cons_zero, List.set_cons_succ]
      refine readyM (i := 2) (o := { dst := Option.none, op := Op.store 42 (Operand.tmp 5) (Operand.tmp 26), type := 0, pos := "ref.go:62", after := #[{ on := 0, ground := Ground.data }, { on := 1, ground := Ground.chain }, { on := 0, ground := Ground.phase }, { on := 1, ground := Ground.phase }], guard := Option.none }) rfl (by kernel_rfl) ?_
      intro u1 hg1 hS1 K hK
      obtain ⟨g1, g2, g3, g4, g5⟩ := HF4.out u1 (btrH' (Below.refl _ _).drew hg1)
      obtain ⟨d0, d1, f0, f1⟩ := cell_two g4
      have HT : Hid (((u1.setCell ⟨z + 1, 0, none⟩ (.int .i64 7)).setCell ⟨z + 1, 1, none⟩ (.slice none 0 0)).heap[z + 1]? = some (.cells #[.int .i64 7, .slice none 0 0] 42) ∧ (((u1.setCell ⟨z + 1, 0, none⟩ (.int .i64 7)).setCell ⟨z + 1, 1, none⟩ (.slice none 0 0)).heap[z]? = some (.cells #[.slice no h.node.length nc, .slice uo h.upF.length uc, .slice ul h.up.length ulc, .slice wo h.dnF.length wc, .slice dl h.dn.length dlc] 25) ∧ ((u1.setCell ⟨z + 1, 0, none⟩ (.int .i64 7)).setCell ⟨z + 1, 1, none⟩ (.slice none 0 0)).heap[q]? = some (.cells #[.int .i64 7, .slice none 0 0] 42)) ∧ HasPlaces ((u1.setCell ⟨z + 1, 0, none⟩ (.int .i64 7)).setCell ⟨z + 1, 1, none⟩ (.slice none 0 0)) (.slice none 0 0) [] ∧ Below w.heap.size w ((u1.setCell ⟨z + 1, 0, none⟩ (.int .i64 7)).setCell ⟨z + 1, 1, none⟩ (.slice none 0 0))) := ⟨set_err g4 _ _, ⟨(Below.heap_setCell _ _ _ _ (by show z ≠ z + 1; omega)).trans ((Below.heap_setCell _ _ _ _ (by show z ≠ z + 1; omega)).trans g3), (Below.heap_setCell _ _ _ _ (by exact (HZQ.out q HQ0.out.1).1)).trans ((Below.heap_setCell _ _ _ _ (by exact (HZQ.out q HQ0.out.1).1)).trans g1)⟩, pl_sets (F := (7, [])) g4 g2 _ _, HSZ.out _ _ _ g5⟩
      clear hS1 g1 g2 g3 g4 g5 hg1
      go_simp
      refine hK.out _ _ (HSS.out _ HT.out.2.1) ?_
      clear hK K d0 d1 f0 f1
      try simp only [Act.put, List.setIfInBounds_toArray, List.set_cons_zero, List.set_cons_succ]
      generalize ((u1.setCell ⟨z + 1, 0, none⟩ (.int .i64 7)).setCell ⟨z + 1, 1, none⟩ (.slice none 0 0)) = U2 at HT ⊢
      refine wpAnyM_done (by kernel_rfl) ?_ _
      intro u9 hg9 hS9
      have H9 : Hid (u9.heap[z + 1]? = some (.cells #[.int .i64 7, .slice none 0 0] 42) ∧ HasPlaces u9 (.slice none 0 0) [] ∧ Below w.heap.size w u9) := ⟨(Below.block hg9 _ (some_lt HT.out.1)).trans HT.out.1, HT.out.2.2.1.keep hg9, HT.out.2.2.2.trans (hg9.mono HT.out.2.2.2.size)⟩
      clear hS9 hg9 HT
      go_wp2
      exact bodyPost_ret (docUp_res H9.out.1 rfl rfl) rfl ⟨[], (7, []), HRF.out, none, 0, none, 0, rfl, World.ownsRow_nil _ _ _ _, H9.out.2.1, H9.out.2.2⟩
    have i1 : decide (s < 0) = false := by simpa using hneg
    by_cases hge : (h.node.length : Int) ≤ s
    · have HRF : Hid (Ans h s (upL h) [] (7, [])) := Or.inl ⟨Or.inr (Or.inr hge), rfl, (cErr_no (by rw [HE.out]; exact HE0.out)).symm⟩
      have i2 : decide (s ≥ (h.node.length : Int)) = true := by simpa using hge
      have i3 : decide ((h.node.length : Int) ≤ s) = true := by simpa using hge
      clear hneg hge
      go_wp2_with fail
      refine (E_calls 7 w3).mono ?_
      rintro e w4 ⟨rfl, hb⟩
      have HB4 : Hid (Below W2.heap.size W2 w4) := btrH' HB3.out hb
      clear hb q0 q1 f0 f1 c0 c1 c2 c3 c4
      obtain ⟨q0, q1, f0, f1⟩ := cell_two (H2.out w4 HB4.out).1
      obtain ⟨W5, hW5⟩ : ∃ W5, (w4.setCell ⟨q, 0, none⟩ (.int .i64 7)).setCell ⟨q, 1, none⟩ (.slice none 0 0) = W5 := ⟨_, rfl⟩
      have HW5 : Hid ((w4.setCell ⟨q, 0, none⟩ (.int .i64 7)).setCell ⟨q, 1, none⟩ (.slice none 0 0) = W5) := hW5
      have HF5 : Hid (∀ wx, Below W5.heap.size W5 wx → wx.heap[q]? = some (.cells #[.int .i64 7, .slice none 0 0] 42) ∧ HasPlaces wx (.slice none 0 0) [] ∧ wx.heap[z]? = some (.cells #[.slice no h.node.length nc, .slice uo h.upF.length uc, .slice ul h.up.length ulc, .slice wo h.dnF.length wc, .slice dl h.dn.length dlc] 25) ∧ wx.heap[z + 1]? = some (.cells #[.int .i64 0, .slice none 0 0] 42) ∧ Below w.heap.size w wx) := fun wx hx => by
        obtain ⟨g1, g2, g3⟩ := H2.out w4 HB4.out
        obtain ⟨a1, a2, _, a4⟩ := HQ.out w4 g3
        obtain ⟨n1, n2⟩ := HZQ.out q HQ0.out.1
        have e1 : W5.heap[q]? = some (.cells #[.int .i64 7, .slice none 0 0] 42) := by rw [← hW5]; exact set_err g1 _ _
        have e2 : W5.heap[z]? = some (.cells #[.slice no h.node.length nc, .slice uo h.upF.length uc, .slice ul h.up.length ulc, .slice wo h.dnF.length wc, .slice dl h.dn.length dlc] 25) := by rw [← hW5]; exact (Below.heap_setCell _ _ _ _ (Ne.symm n2)).trans ((Below.heap_setCell _ _ _ _ (Ne.symm n2)).trans a1)
        have e3 : W5.heap[z + 1]? = some (.cells #[.int .i64 0, .slice none 0 0] 42) := by rw [← hW5]; exact (Below.heap_setCell _ _ _ _ (Ne.symm n1)).trans ((Below.heap_setCell _ _ _ _ (Ne.symm n1)).trans a2)
        have hwq : w.heap.size ≤ q := Nat.le_trans (HQ.out W0 HB0.out).2.2.2.size HQ0.out.1
        have e4 : Below w.heap.size w W5 := by rw [← hW5]; exact (a4.setCell (p := ⟨q, 0, none⟩) hwq _).setCell (p := ⟨q, 1, none⟩) hwq _
        exact ⟨(hx.block _ (some_lt e1)).trans e1, pl_nil _, (hx.block _ (some_lt e2)).trans e2, (hx.block _ (some_lt e3)).trans e3, e4.trans (hx.mono e4.size)⟩
      clear hW5
      go_upto_region 4 with fail
      rw [HW5.out]
      clear HW5 q0 q1 f0 f1
      obtain ⟨q0, q1, _, _⟩ := cell_two (HF5.out W5 (Below.refl _ _)).1
      go_wp2_with fail
      refine (Hi.bad_calls 7 none 0 0 W5).mono ?_
      rintro e w6 ⟨rfl, hb⟩
      have HB6 : Hid (Below W5.heap.size W5 w6) := hb
      clear hb q0 q1
      have HF4 : Hid (∀ wx, Below w6.heap.size w6 wx → wx.heap[q]? = some (.cells #[.int .i64 7, .slice none 0 0] 42) ∧ HasPlaces wx (.slice none 0 0) [] ∧ wx.heap[z]? = some (.cells #[.slice no h.node.length nc, .slice uo h.upF.length uc, .slice ul h.up.length ulc, .slice wo h.dnF.length wc, .slice dl h.dn.length dlc] 25) ∧ wx.heap[z + 1]? = some (.cells #[.int .i64 0, .slice none 0 0] 42) ∧ Below w.heap.size w wx) := fun wx hx => HF5.out wx (btrH' HB6.out hx)
      obtain ⟨q0, q1, _, _⟩ := cell_two (HF4.out w6 (Below.refl _ _)).1
      go_wp2_with fail
      have HSS : Hid (∀ wx : World, (wx.heap[z]? = some (.cells #[.slice no h.node.length nc, .slice uo h.upF.length uc, .slice ul h.up.length ulc, .slice wo h.dnF.length wc, .slice dl h.dn.length dlc] 25) ∧ wx.heap[q]? = some (.cells #[.int .i64 7, .slice none 0 0] 42)) → (fun w' => w'.cell? ⟨z, 0, none⟩ = some (.slice no h.node.length nc) ∧ w'.cell? ⟨z, 1, none⟩ = some (.slice uo h.upF.length uc) ∧ w'.cell? ⟨z, 2, none⟩ = some (.slice ul h.up.length ulc) ∧ w'.cell? ⟨z, 3, none⟩ = some (.slice wo h.dnF.length wc) ∧ w'.cell? ⟨z, 4, none⟩ = some (.slice dl h.dn.length dlc) ∧ w'.cell? ⟨q, 0, none⟩ = some (.int .i64 7) ∧ w'.cell? ⟨q, 1, none⟩ = some (.slice none 0 0) ∧ Hid (w'.heap[z]? = some (.cells #[.slice no h.node.length nc, .slice uo h.upF.length uc, .slice ul h.up.length ulc, .slice wo h.dnF.length wc, .slice dl h.dn.length dlc] 25) ∧ w'.heap[q]? = some (.cells #[.int .i64 7, .slice none 0 0] 42))) wx) := fun wx hx => by
        obtain ⟨a0, a1, a2, a3, a4⟩ := five_cells hx.1
        obtain ⟨b0, b1, _, _⟩ := cell_two hx.2
        exact ⟨a0, a1, a2, a3, a4, b0, b1, hx⟩
      clear q0 q1
      refine wp_region_M (S := (fun w' => w'.cell? ⟨z, 0, none⟩ = some (.slice no h.node.length nc) ∧ w'.cell? ⟨z, 1, none⟩ = some (.slice uo h.upF.length uc) ∧ w'.cell? ⟨z, 2, none⟩ = some (.slice ul h.up.length ulc) ∧ w'.cell? ⟨z, 3, none⟩ = some (.slice wo h.dnF.length wc) ∧ w'.cell? ⟨z, 4, none⟩ = some (.slice dl h.dn.length dlc) ∧ w'.cell? ⟨q, 0, none⟩ = some (.int .i64 7) ∧ w'.cell? ⟨q, 1, none⟩ = some (.slice none 0 0) ∧ Hid (w'.heap[z]? = some (.cells #[.slice no h.node.length nc, .slice uo h.upF.length uc, .slice ul h.up.length ulc, .slice wo h.dnF.length wc, .slice dl h.dn.length dlc] 25) ∧ w'.heap[q]? = some (.cells #[.int .i64 7, .slice none 0 0] 42)))) (by kernel_rfl) (HSS.out _ ⟨(HF4.out _ (Below.refl _ _).drew).2.2.1, (HF4.out _ (Below.refl _ _).drew).1⟩) ?_
      refine wpAnyM_take (i := 0) (oi := { dst := Option.some 26, op := Op.load 42 (Operand.tmp 6), type := 42, pos := "ref.go:62", after := #[{ on := 1, ground := Ground.gcOnly Departure.lateStores }], guard := Option.none }) (v := ?vbe3z0) rfl (by kernel_rfl) (by kernel_rfl) (by kernel_rfl) (fun _ _ _ h => h) (YieldsM.of_if (Or.inl ⟨by rfl, ?hbe3z0⟩)) ?rbe3z0
      case hbe3z0 => ((intro wz hSw; (try dsimp only at hSw); go_simp); try (with_reducible rfl))
      try simp only [Act.put, List.setIfInBounds_toArray, List.set_cons_zero, List.set_cons_succ]
      refine wpAnyM_take (i := 1) (oi := { dst := Option.some 4, op := Op.assign (Operand.const (Value.slice Option.none 0 0)), type := 39, pos := "ref.go:62", after := #[{ on := 0, ground := Ground.textOnly Departure.lateStores }], guard := Option.none }) (v := ?vbe4z1) rfl (by kernel_rfl) (by kernel_rfl) (by kernel_rfl) (fun _ _ _ h => h) (YieldsM.of_if (Or.inl ⟨by rfl, ?hbe4z1⟩)) ?rbe4z1
      case hbe4z1 => ((intro wz hSw; (try dsimp only at hSw); go_simp); try (with_reducible rfl))
      try simp only [Act.put, List.setIfInBounds_toArray, List.set_cons_zero, List.set_cons_succ]
      refine readyM (i := 2) (o := { dst := Option.none, op := Op.store 42 (Operand.tmp 5) (Operand.tmp 26), type := 0, pos := "ref.go:62", after := #[{ on := 0, ground := Ground.data }, { on := 1, ground := Ground.chain }, { on := 0, ground := Ground.phase }, { on := 1, ground := Ground.phase }], guard := Option.none }) rfl (by kernel_rfl) ?_
      intro u1 hg1 hS1 K hK
      obtain ⟨g1, g2, g3, g4, g5⟩ := HF4.out u1 (btrH' (Below.refl _ _).drew hg1)
      obtain ⟨d0, d1, f0, f1⟩ := cell_two g4
      have HT : Hid (((u1.setCell ⟨z + 1, 0, none⟩ (.int .i64 7)).setCell ⟨z + 1, 1, none⟩ (.slice none 0 0)).heap[z + 1]? = some (.cells #[.int .i64 7, .slice none 0 0] 42) ∧ (((u1.setCell ⟨z + 1, 0, none⟩ (.int .i64 7)).setCell ⟨z + 1, 1, none⟩ (.slice none 0 0)).heap[z]? = some (.cells #[.slice no h.node.length nc, .slice uo h.upF.length uc, .slice ul h.up.length ulc, .slice wo h.dnF.length wc, .slice dl h.dn.length dlc] 25) ∧ ((u1.setCell ⟨z + 1, 0, none⟩ (.int .i64 7)).setCell ⟨z + 1, 1, none⟩ (.slice none 0 0)).heap[q]? = some (.cells #[.int .i64 7, .slice none 0 0] 42)) ∧ HasPlaces ((u1.setCell ⟨z + 1, 0, none⟩ (.int .i64 7)).setCell ⟨z + 1, 1, none⟩ (.slice none 0 0)) (.slice none 0 0) [] ∧ Below w.heap.size w ((u1.setCell ⟨z + 1, 0, none⟩ (.int .i64 7)).setCell ⟨z + 1, 1, none⟩ (.slice none 0 0))) := ⟨set_err g4 _ _, ⟨(Below.heap_setCell _ _ _ _ (by show z ≠ z + 1; omega)).trans ((Below.heap_setCell _ _ _ _ (by show z ≠ z + 1; omega)).trans g3), (Below.heap_setCell _ _ _ _ (by exact (HZQ.out q HQ0.out.1).1)).trans ((Below.heap_setCell _ _ _ _ (by exact (HZQ.out q HQ0.out.1).1)).trans g1)⟩, pl_sets (F := (7, [])) g4 g2 _ _, HSZ.out _ _ _ g5⟩
      clear hS1 g1 g2 g3 g4 g5 hg1
      go_simp
      refine hK.out _ _ (HSS.out _ HT.out.2.1) ?_
      clear hK K d0 d1 f0 f1
      try simp only [Act.put, List.setIfInBounds_toArray, List.set_cons_zero, List.set_cons_succ]
      generalize ((u1.setCell ⟨z + 1, 0, none⟩ (.int .i64 7)).setCell ⟨z + 1, 1, none⟩ (.slice none 0 0)) = U2 at HT ⊢
      refine wpAnyM_done (by kernel_rfl) ?_ _
      intro u9 hg9 hS9
      have H9 : Hid (u9.heap[z + 1]? = some (.cells #[.int .i64 7, .slice none 0 0] 42) ∧ HasPlaces u9 (.slice none 0 0) [] ∧ Below w.heap.size w u9) := ⟨(Below.block hg9 _ (some_lt HT.out.1)).trans HT.out.1, HT.out.2.2.1.keep hg9, HT.out.2.2.2.trans (hg9.mono HT.out.2.2.2.size)⟩
      clear hS9 hg9 HT
      go_wp2
      exact bodyPost_ret (docUp_res H9.out.1 rfl rfl) rfl ⟨[], (7, []), HRF.out, none, 0, none, 0, rfl, World.ownsRow_nil _ _ _ _, H9.out.2.1, H9.out.2.2⟩
    obtain ⟨s', rfl⟩ : ∃ s' : Nat, s = (s' : Int) := ⟨s.toNat, by omega⟩
    have hs : s' < h.node.length := by omega
    have i2 : decide ((s' : Int) ≥ (h.node.length : Int)) = false := by simp; omega
    have i3 : decide (h.node.length ≤ s') = false := by simp; omega
    have HNR : Hid (¬ Refuses h (s' : Int)) := fun g => by
      rcases g with g | g | g
      · exact g (by rw [HE.out]; exact HE0.out)
      · omega
      · omega
    have HUS : Hid (type_of% (HUP.out (by rw [HE.out]; exact HE0.out) s' hs)) := HUP.out (by rw [HE.out]; exact HE0.out) s' hs
    clear hneg hge hs
    go_wp2_with fail
    refine (Hi.bad_calls E.1 lo E.2.length lc w3).mono ?_
    rintro e w4 ⟨rfl, hb⟩
    rw [bad_iff]
    have HB4 : Hid (Below W2.heap.size W2 w4) := btrH' HB3.out hb
    clear hb q0 q1 f0 f1 c0 c1 c2 c3 c4
    obtain ⟨q0, q1, _, _⟩ := cell_two (H2.out w4 HB4.out).1
    go_wp2_with fail
    have HSS : Hid (∀ wx : World, (wx.heap[z]? = some (.cells #[.slice no h.node.length nc, .slice uo h.upF.length uc, .slice ul h.up.length ulc, .slice wo h.dnF.length wc, .slice dl h.dn.length dlc] 25) ∧ wx.heap[q]? = some (.cells #[.int .i64 E.1, .slice lo E.2.length lc] 42)) → (fun w' => w'.cell? ⟨z, 0, none⟩ = some (.slice no h.node.length nc) ∧ w'.cell? ⟨z, 1, none⟩ = some (.slice uo h.upF.length uc) ∧ w'.cell? ⟨z, 2, none⟩ = some (.slice ul h.up.length ulc) ∧ w'.cell? ⟨z, 3, none⟩ = some (.slice wo h.dnF.length wc) ∧ w'.cell? ⟨z, 4, none⟩ = some (.slice dl h.dn.length dlc) ∧ w'.cell? ⟨q, 0, none⟩ = some (.int .i64 E.1) ∧ w'.cell? ⟨q, 1, none⟩ = some (.slice lo E.2.length lc) ∧ Hid (w'.heap[z]? = some (.cells #[.slice no h.node.length nc, .slice uo h.upF.length uc, .slice ul h.up.length ulc, .slice wo h.dnF.length wc, .slice dl h.dn.length dlc] 25) ∧ w'.heap[q]? = some (.cells #[.int .i64 E.1, .slice lo E.2.length lc] 42))) wx) := fun wx hx => by
      obtain ⟨a0, a1, a2, a3, a4⟩ := five_cells hx.1
      obtain ⟨b0, b1, _, _⟩ := cell_two hx.2
      exact ⟨a0, a1, a2, a3, a4, b0, b1, hx⟩
    clear q0 q1
    refine wp_region_M (S := (fun w' => w'.cell? ⟨z, 0, none⟩ = some (.slice no h.node.length nc) ∧ w'.cell? ⟨z, 1, none⟩ = some (.slice uo h.upF.length uc) ∧ w'.cell? ⟨z, 2, none⟩ = some (.slice ul h.up.length ulc) ∧ w'.cell? ⟨z, 3, none⟩ = some (.slice wo h.dnF.length wc) ∧ w'.cell? ⟨z, 4, none⟩ = some (.slice dl h.dn.length dlc) ∧ w'.cell? ⟨q, 0, none⟩ = some (.int .i64 E.1) ∧ w'.cell? ⟨q, 1, none⟩ = some (.slice lo E.2.length lc) ∧ Hid (w'.heap[z]? = some (.cells #[.slice no h.node.length nc, .slice uo h.upF.length uc, .slice ul h.up.length ulc, .slice wo h.dnF.length wc, .slice dl h.dn.length dlc] 25) ∧ w'.heap[q]? = some (.cells #[.int .i64 E.1, .slice lo E.2.length lc] 42)))) (by kernel_rfl) (HSS.out _ ⟨(HQ.out _ (H2.out _ (btrH' HB4.out (Below.refl _ _).drew)).2.2).1, (H2.out _ (btrH' HB4.out (Below.refl _ _).drew)).1⟩) ?_
    refine wpAnyM_take (i := 0) (oi := { dst := Option.some 27, op := Op.load 25 (Operand.tmp 2), type := 25, pos := "ref.go:64", after := #[], guard := Option.none }) (v := ?vg5z0) rfl (by kernel_rfl) (by kernel_rfl) (by kernel_rfl) (fun _ _ _ h => h) (YieldsM.of_if (Or.inl ⟨by rfl, ?hg5z0⟩)) ?rg5z0
    case hg5z0 => ((intro wz hSw; (try dsimp only at hSw); go_simp); try (with_reducible rfl))
    try simp only [Act.put, List.setIfInBounds_toArray, List.set_cons_zero, List.set_cons_succ]
    refine wpAnyM_take (i := 1) (oi := { dst := Option.some 28, op := Op.move (Operand.tmp 1), type := 3, pos := "ref.go:64", after := #[], guard := Option.none }) (v := ?vg6z1) rfl (by kernel_rfl) (by kernel_rfl) (by kernel_rfl) (fun _ _ _ h => h) (YieldsM.of_if (Or.inl ⟨by rfl, ?hg6z1⟩)) ?rg6z1
    case hg6z1 => ((intro wz hSw; (try dsimp only at hSw); go_simp); try (with_reducible rfl))
    try simp only [Act.put, List.setIfInBounds_toArray, List.set_cons_zero, List.set_cons_succ]
    refine wpAnyM_take (i := 3) (oi := { dst := Option.some 30, op := Op.load 42 (Operand.tmp 6), type := 42, pos := "ref.go:64", after := #[{ on := 4, ground := Ground.gcOnly Departure.lateStores }], guard := Option.none }) (v := ?vg7z3) rfl (by kernel_rfl) (by kernel_rfl) (by kernel_rfl) (fun _ _ _ h => h) (YieldsM.of_if (Or.inl ⟨by rfl, ?hg7z3⟩)) ?rg7z3
    case hg7z3 => ((intro wz hSw; (try dsimp only at hSw); go_simp); try (with_reducible rfl))
    try simp only [Act.put, List.setIfInBounds_toArray, List.set_cons_zero, List.set_cons_succ]
    have F1 : Hid (∀ wx, Below w4.drew.heap.size w4.drew wx → wx.heap[q]? = some (.cells #[.int .i64 E.1, .slice lo E.2.length lc] 42) ∧ HasPlaces wx (.slice lo E.2.length lc) E.2 ∧ wx.heap[z]? = some (.cells #[.slice no h.node.length nc, .slice uo h.upF.length uc, .slice ul h.up.length ulc, .slice wo h.dnF.length wc, .slice dl h.dn.length dlc] 25) ∧ wx.heap[z + 1]? = some (.cells #[.int .i64 0, .slice none 0 0] 42) ∧ HasH wx ⟨no, uo, ul, wo, dl, nc, uc, ulc, wc, dlc⟩ h ∧ Below w.heap.size w wx) := fun wx hx => by
      obtain ⟨g1, g2, g3⟩ := H2.out wx (btrH' HB4.out (btrH' (Below.refl _ _).drew hx))
      obtain ⟨a1, a2, a3, a4⟩ := HQ.out wx g3
      exact ⟨g1, g2, a1, a2, a3, a4⟩
    refine readyM (i := 2) (o := { dst := Option.some 29, op := Op.call { callee := Callee.value (Operand.func 25), args := #[Operand.tmp 27, Operand.tmp 28], argTypes := #[25, 3] }, type := 39, pos := "ref.go:64", after := #[{ on := 0, ground := Ground.data }, { on := 1, ground := Ground.data }], guard := Option.none }) rfl (by kernel_rfl) ?_
    intro u1 hg1 hS1 K hK
    have hf := F1.out u1 hg1
    clear hS1
    go_simp
    refine (HUS.out u1 hf.2.2.2.2.1).mono ?_
    rintro e u2 ⟨mo, mc, X, hX0, rfl, ho, hb2⟩
    have HX0 : Hid (X = upL h s') := hX0
    clear hX0
    go_wp2_with fail
    have HAN : Hid (Ans h (s' : Int) (upL h) X E) := Or.inr ⟨HNR.out, by rw [HX0.out]; rfl, HE0.out⟩
    have F2 : Hid (∀ wx, Below u2.heap.size u2 wx → (wx.heap[q]? = some (.cells #[.int .i64 E.1, .slice lo E.2.length lc] 42) ∧ HasPlaces wx (.slice lo E.2.length lc) E.2 ∧ wx.heap[z]? = some (.cells #[.slice no h.node.length nc, .slice uo h.upF.length uc, .slice ul h.up.length ulc, .slice wo h.dnF.length wc, .slice dl h.dn.length dlc] 25) ∧ wx.heap[z + 1]? = some (.cells #[.int .i64 0, .slice none 0 0] 42) ∧ HasH wx ⟨no, uo, ul, wo, dl, nc, uc, ulc, wc, dlc⟩ h ∧ Below w.heap.size w wx) ∧ wx.ownsRow w.heap.size 49 3 (.slice mo X.length mc) X.length (snv X) ∧ ∀ g, (Value.slice mo X.length mc).ownBlock = some g → g ≠ z + 1) := fun wx hx => by
      have gg := F1.out u2 (btrH' hg1 hb2)
      have hz1 : z + 1 < u1.heap.size := some_lt (F1.out u1 hg1).2.2.2.1
      have hwu : w.heap.size ≤ u1.heap.size := Below.size (F1.out u1 hg1).2.2.2.2.2
      refine ⟨(F1.out wx (btrH' hg1 (btrH' hb2 hx))), own_upO (own_lowO ho hwu) hx, fun g hg e => ?_⟩
      have := ho.lt g hg
      omega
    refine hK.out _ _ (HSS.out _ (by have g := F1.out u2 (btrH' hg1 hb2); exact ⟨g.2.2.1, g.1⟩)) ?_
    clear hK K
    clear ho hb2 hg1 hf F1
    try simp only [Act.put, List.setIfInBounds_toArray, List.set_cons_zero, List.set_cons_succ]
    refine wpAnyM_take (i := 4) (oi := { dst := Option.some 4, op := Op.assign (Operand.tmp 29), type := 39, pos := "ref.go:64", after := #[{ on := 2, ground := Ground.data }, { on := 2, ground := Ground.chain }, { on := 0, ground := Ground.phase }, { on := 1, ground := Ground.phase }, { on := 2, ground := Ground.phase }, { on := 3, ground := Ground.textOnly Departure.lateStores }], guard := Option.none }) (v := ?vh8z4) rfl (by kernel_rfl) (by kernel_rfl) (by kernel_rfl) (fun _ _ _ h => h) (YieldsM.of_if (Or.inl ⟨by rfl, ?hh8z4⟩)) ?rh8z4
    case hh8z4 => ((intro wz hSw; (try dsimp only at hSw); go_simp); try (with_reducible rfl))
    try simp only [Act.put, List.setIfInBounds_toArray, List.set_cons_zero, List.set_cons_succ]
    refine readyM (i := 5) (o := { dst := Option.none, op := Op.store 42 (Operand.tmp 5) (Operand.tmp 30), type := 0, pos := "ref.go:64", after := #[{ on := 3, ground := Ground.data }, { on := 4, ground := Ground.chain }, { on := 0, ground := Ground.phase }, { on := 1, ground := Ground.phase }, { on := 2, ground := Ground.phase }, { on := 3, ground := Ground.phase }, { on := 4, ground := Ground.phase }], guard := Option.none }) rfl (by kernel_rfl) ?_
    intro u3 hg3 hS3 K hK
    obtain ⟨⟨g1, g2, g3, g4, _, g5⟩, g6⟩ := F2.out u3 hg3
    obtain ⟨d0, d1, f0, f1⟩ := cell_two g4
    have HT : Hid (((u3.setCell ⟨z + 1, 0, none⟩ (.int .i64 E.1)).setCell ⟨z + 1, 1, none⟩ (.slice lo E.2.length lc)).heap[z + 1]? = some (.cells #[.int .i64 E.1, .slice lo E.2.length lc] 42) ∧ (((u3.setCell ⟨z + 1, 0, none⟩ (.int .i64 E.1)).setCell ⟨z + 1, 1, none⟩ (.slice lo E.2.length lc)).heap[z]? = some (.cells #[.slice no h.node.length nc, .slice uo h.upF.length uc, .slice ul h.up.length ulc, .slice wo h.dnF.length wc, .slice dl h.dn.length dlc] 25) ∧ ((u3.setCell ⟨z + 1, 0, none⟩ (.int .i64 E.1)).setCell ⟨z + 1, 1, none⟩ (.slice lo E.2.length lc)).heap[q]? = some (.cells #[.int .i64 E.1, .slice lo E.2.length lc] 42)) ∧ HasPlaces ((u3.setCell ⟨z + 1, 0, none⟩ (.int .i64 E.1)).setCell ⟨z + 1, 1, none⟩ (.slice lo E.2.length lc)) (.slice lo E.2.length lc) E.2 ∧ Below w.heap.size w ((u3.setCell ⟨z + 1, 0, none⟩ (.int .i64 E.1)).setCell ⟨z + 1, 1, none⟩ (.slice lo E.2.length lc)) ∧ ((u3.setCell ⟨z + 1, 0, none⟩ (.int .i64 E.1)).setCell ⟨z + 1, 1, none⟩ (.slice lo E.2.length lc)).ownsRow w.heap.size 49 3 (.slice mo X.length mc) X.length (snv X)) := ⟨set_err g4 _ _, ⟨(Below.heap_setCell _ _ _ _ (by show z ≠ z + 1; omega)).trans ((Below.heap_setCell _ _ _ _ (by show z ≠ z + 1; omega)).trans g3), (Below.heap_setCell _ _ _ _ (by exact (HZQ.out q HQ0.out.1).1)).trans ((Below.heap_setCell _ _ _ _ (by exact (HZQ.out q HQ0.out.1).1)).trans g1)⟩, pl_sets (F := E) g4 g2 _ _, HSZ.out _ _ _ g5, own_far (own_far g6.1 (fun g hg => g6.2 g hg)) (fun g hg => g6.2 g hg)⟩
    clear hS3 g1 g2 g3 g4 g5 g6 hg3
    go_simp
    refine hK.out _ _ (HSS.out _ HT.out.2.1) ?_
    clear hK K d0 d1 f0 f1
    try simp only [Act.put, List.setIfInBounds_toArray, List.set_cons_zero, List.set_cons_succ]
    generalize ((u3.setCell ⟨z + 1, 0, none⟩ (.int .i64 E.1)).setCell ⟨z + 1, 1, none⟩ (.slice lo E.2.length lc)) = U4 at HT ⊢
    refine wpAnyM_done (by kernel_rfl) ?_ _
    intro u9 hg9 hS9
    have H9 : Hid (u9.heap[z + 1]? = some (.cells #[.int .i64 E.1, .slice lo E.2.length lc] 42) ∧ HasPlaces u9 (.slice lo E.2.length lc) E.2 ∧ Below w.heap.size w u9 ∧ u9.ownsRow w.heap.size 49 3 (.slice mo X.length mc) X.length (snv X)) := ⟨(Below.block hg9 _ (some_lt HT.out.1)).trans HT.out.1, HT.out.2.2.1.keep hg9, HT.out.2.2.2.1.trans (hg9.mono HT.out.2.2.2.1.size), own_upO HT.out.2.2.2.2 hg9⟩
    clear hS9 hg9 HT
    go_wp2
    exact bodyPost_ret (docUp_res H9.out.1 rfl rfl) rfl ⟨X, E, HAN.out, mo, mc, lo, lc, rfl, H9.out.2.2.2, H9.out.2.1, H9.out.2.2.1⟩
  · have j1 : decide (E = (0, [])) = false := by simpa using hc
    have HRF : Hid (Ans h s (upL h) [] E) := Or.inl ⟨Or.inl (by rw [HE.out]; exact hc), rfl, by rw [cErr_chk (by rw [HE.out]; exact hc), HE.out]⟩
    go_wp2_with fail
    refine (Hi.bad_calls E.1 lo E.2.length lc w3).mono ?_
    rintro e w4 ⟨rfl, hb⟩
    rw [bad_iff]
    have HB4 : Hid (Below W2.heap.size W2 w4) := btrH' HB3.out hb
    clear hb q0 q1 f0 f1 c0 c1 c2 c3 c4 hc
    have HF4 : Hid (∀ wx, Below w4.heap.size w4 wx → wx.heap[q]? = some (.cells #[.int .i64 E.1, .slice lo E.2.length lc] 42) ∧ HasPlaces wx (.slice lo E.2.length lc) E.2 ∧ wx.heap[z]? = some (.cells #[.slice no h.node.length nc, .slice uo h.upF.length uc, .slice ul h.up.length ulc, .slice wo h.dnF.length wc, .slice dl h.dn.length dlc] 25) ∧ wx.heap[z + 1]? = some (.cells #[.int .i64 0, .slice none 0 0] 42) ∧ Below w.heap.size w wx) := fun wx hx => by
      obtain ⟨g1, g2, g3⟩ := H2.out wx (btrH' HB4.out hx)
      obtain ⟨a1, a2, _, a4⟩ := HQ.out wx g3
      exact ⟨g1, g2, a1, a2, a4⟩
    obtain ⟨q0, q1, _, _⟩ := cell_two (HF4.out w4 (Below.refl _ _)).1
    go_wp2_with fail
    have HSS : Hid (∀ wx : World, (wx.heap[z]? = some (.cells #[.slice no h.node.length nc, .slice uo h.upF.length uc, .slice ul h.up.length ulc, .slice wo h.dnF.length wc, .slice dl h.dn.length dlc] 25) ∧ wx.heap[q]? = some (.cells #[.int .i64 E.1, .slice lo E.2.length lc] 42)) → (fun w' => w'.cell? ⟨z, 0, none⟩ = some (.slice no h.node.length nc) ∧ w'.cell? ⟨z, 1, none⟩ = some (.slice uo h.upF.length uc) ∧ w'.cell? ⟨z, 2, none⟩ = some (.slice ul h.up.length ulc) ∧ w'.cell? ⟨z, 3, none⟩ = some (.slice wo h.dnF.length wc) ∧ w'.cell? ⟨z, 4, none⟩ = some (.slice dl h.dn.length dlc) ∧ w'.cell? ⟨q, 0, none⟩ = some (.int .i64 E.1) ∧ w'.cell? ⟨q, 1, none⟩ = some (.slice lo E.2.length lc) ∧ Hid (w'.heap[z]? = some (.cells #[.slice no h.node.length nc, .slice uo h.upF.length uc, .slice ul h.up.length ulc, .slice wo h.dnF.length wc, .slice dl h.dn.length dlc] 25) ∧ w'.heap[q]? = some (.cells #[.int .i64 E.1, .slice lo E.2.length lc] 42))) wx) := fun wx hx => by
      obtain ⟨a0, a1, a2, a3, a4⟩ := five_cells hx.1
      obtain ⟨b0, b1, _, _⟩ := cell_two hx.2
      exact ⟨a0, a1, a2, a3, a4, b0, b1, hx⟩
    clear q0 q1
    refine wp_region_M (S := (fun w' => w'.cell? ⟨z, 0, none⟩ = some (.slice no h.node.length nc) ∧ w'.cell? ⟨z, 1, none⟩ = some (.slice uo h.upF.length uc) ∧ w'.cell? ⟨z, 2, none⟩ = some (.slice ul h.up.length ulc) ∧ w'.cell? ⟨z, 3, none⟩ = some (.slice wo h.dnF.length wc) ∧ w'.cell? ⟨z, 4, none⟩ = some (.slice dl h.dn.length dlc) ∧ w'.cell? ⟨q, 0, none⟩ = some (.int .i64 E.1) ∧ w'.cell? ⟨q, 1, none⟩ = some (.slice lo E.2.length lc) ∧ Hid (w'.heap[z]? = some (.cells #[.slice no h.node.length nc, .slice uo h.upF.length uc, .slice ul h.up.length ulc, .slice wo h.dnF.length wc, .slice dl h.dn.length dlc] 25) ∧ w'.heap[q]? = some (.cells #[.int .i64 E.1, .slice lo E.2.length lc] 42)))) (by kernel_rfl) (HSS.out _ ⟨(HF4.out _ (Below.refl _ _).drew).2.2.1, (HF4.out _ (Below.refl _ _).drew).1⟩) ?_
    refine wpAnyM_take (i := 0) (oi := { dst := Option.some 26, op := Op.load 42 (Operand.tmp 6), type := 42, pos := "ref.go:62", after := #[{ on := 1, ground := Ground.gcOnly Departure.lateStores }], guard := Option.none }) (v := ?ve1z0) rfl (by kernel_rfl) (by kernel_rfl) (by kernel_rfl) (fun _ _ _ h => h) (YieldsM.of_if (Or.inl ⟨by rfl, ?he1z0⟩)) ?re1z0
    case he1z0 => ((intro wz hSw; (try dsimp only at hSw); go_simp); try (with_reducible rfl))
    try simp only [Act.put, List.setIfInBounds_toArray, List.set_cons_zero, List.set_cons_succ]
    refine wpAnyM_take (i := 1) (oi := { dst := Option.some 4, op := Op.assign (Operand.const (Value.slice Option.none 0 0)), type := 39, pos := "ref.go:62", after := #[{ on := 0, ground := Ground.textOnly Departure.lateStores }], guard := Option.none }) (v := ?ve2z1) rfl (by kernel_rfl) (by kernel_rfl) (by kernel_rfl) (fun _ _ _ h => h) (YieldsM.of_if (Or.inl ⟨by rfl, ?he2z1⟩)) ?re2z1
    case he2z1 => ((intro wz hSw; (try dsimp only at hSw); go_simp); try (with_reducible rfl))
    try simp only [Act.put, List.setIfInBounds_toArray, List.set_cons_zero, List.set_cons_succ]
    refine readyM (i := 2) (o := { dst := Option.none, op := Op.store 42 (Operand.tmp 5) (Operand.tmp 26), type := 0, pos := "ref.go:62", after := #[{ on := 0, ground := Ground.data }, { on := 1, ground := Ground.chain }, { on := 0, ground := Ground.phase }, { on := 1, ground := Ground.phase }], guard := Option.none }) rfl (by kernel_rfl) ?_
    intro u1 hg1 hS1 K hK
    obtain ⟨g1, g2, g3, g4, g5⟩ := HF4.out u1 (btrH' (Below.refl _ _).drew hg1)
    obtain ⟨d0, d1, f0, f1⟩ := cell_two g4
    have HT : Hid (((u1.setCell ⟨z + 1, 0, none⟩ (.int .i64 E.1)).setCell ⟨z + 1, 1, none⟩ (.slice lo E.2.length lc)).heap[z + 1]? = some (.cells #[.int .i64 E.1, .slice lo E.2.length lc] 42) ∧ (((u1.setCell ⟨z + 1, 0, none⟩ (.int .i64 E.1)).setCell ⟨z + 1, 1, none⟩ (.slice lo E.2.length lc)).heap[z]? = some (.cells #[.slice no h.node.length nc, .slice uo h.upF.length uc, .slice ul h.up.length ulc, .slice wo h.dnF.length wc, .slice dl h.dn.length dlc] 25) ∧ ((u1.setCell ⟨z + 1, 0, none⟩ (.int .i64 E.1)).setCell ⟨z + 1, 1, none⟩ (.slice lo E.2.length lc)).heap[q]? = some (.cells #[.int .i64 E.1, .slice lo E.2.length lc] 42)) ∧ HasPlaces ((u1.setCell ⟨z + 1, 0, none⟩ (.int .i64 E.1)).setCell ⟨z + 1, 1, none⟩ (.slice lo E.2.length lc)) (.slice lo E.2.length lc) E.2 ∧ Below w.heap.size w ((u1.setCell ⟨z + 1, 0, none⟩ (.int .i64 E.1)).setCell ⟨z + 1, 1, none⟩ (.slice lo E.2.length lc))) := ⟨set_err g4 _ _, ⟨(Below.heap_setCell _ _ _ _ (by show z ≠ z + 1; omega)).trans ((Below.heap_setCell _ _ _ _ (by show z ≠ z + 1; omega)).trans g3), (Below.heap_setCell _ _ _ _ (by exact (HZQ.out q HQ0.out.1).1)).trans ((Below.heap_setCell _ _ _ _ (by exact (HZQ.out q HQ0.out.1).1)).trans g1)⟩, pl_sets (F := E) g4 g2 _ _, HSZ.out _ _ _ g5⟩
    clear hS1 g1 g2 g3 g4 g5 hg1
    go_simp
    refine hK.out _ _ (HSS.out _ HT.out.2.1) ?_
    clear hK K d0 d1 f0 f1
    try simp only [Act.put, List.setIfInBounds_toArray, List.set_cons_zero, List.set_cons_succ]
    generalize ((u1.setCell ⟨z + 1, 0, none⟩ (.int .i64 E.1)).setCell ⟨z + 1, 1, none⟩ (.slice lo E.2.length lc)) = U2 at HT ⊢
    refine wpAnyM_done (by kernel_rfl) ?_ _
    intro u9 hg9 hS9
    have H9 : Hid (u9.heap[z + 1]? = some (.cells #[.int .i64 E.1, .slice lo E.2.length lc] 42) ∧ HasPlaces u9 (.slice lo E.2.length lc) E.2 ∧ Below w.heap.size w u9) := ⟨(Below.block hg9 _ (some_lt HT.out.1)).trans HT.out.1, HT.out.2.2.1.keep hg9, HT.out.2.2.2.trans (hg9.mono HT.out.2.2.2.size)⟩
    clear hS9 hg9 HT
    go_wp2
    exact bodyPost_ret (docUp_res H9.out.1 rfl rfl) rfl ⟨[], E, HRF.out, none, 0, lo, lc, rfl, World.ownsRow_nil _ _ _ _, H9.out.2.1, H9.out.2.2⟩

theorem docUp_calls (v : HV) (h : Hr) (s : Int) (w : World) (hH : HasH w v h) (hb1 : h.up.length ≤ 1152921504606846976) (hb2 : h.dn.length ≤ 1152921504606846976) (hb3 : h.node.length ≤ 1152921504606846976) :
    Calls Try.prog 10 #[hvl v h, .int .i64 s] w fun e w' => UA h s (upL h) w e w' :=
  docUp_aux v.no v.uo v.ul v.wo v.dl v.nc v.uc v.ulc v.wc v.dlc h s w hH hb1 hb2 hb3
theorem docDown_res {W : World} {z : Nat} {x0 x1 u : Value} {tmps : Array Value} (h1 : W.heap[z]? = some (.cells #[x0, x1] 42)) (t5 : tmps[5]?.getD undef = .pointer (some ⟨z, 0, none⟩)) (t4 : tmps[4]?.getD undef = u) :
    (results Try.f11 tmps).run Try.prog W = .ok (.tuple #[u, .agg #[x0, x1]]) W := by
  have c0 : W.cell? ⟨z, 0, none⟩ = some x0 := by simp [World.cell?, h1]
  have c1 : W.cell? ⟨z, 1, none⟩ = some x1 := by simp [World.cell?, h1]
  simp [results, Try.results11, go_sem, t4, t5, c0, c1]

set_option maxRecDepth 100000 in
set_option maxHeartbeats 8000000 in
theorem docDown_aux (no uo ul wo dl : Option Addr) (nc uc ulc wc dlc : Nat) (h : Hr) (s : Int) (w : World) (hH : HasH w ⟨no, uo, ul, wo, dl, nc, uc, ulc, wc, dlc⟩ h) (hb1 : h.up.length ≤ 1152921504606846976) (hb2 : h.dn.length ≤ 1152921504606846976) (hb3 : h.node.length ≤ 1152921504606846976) :
    Calls Try.prog 11 #[hvl ⟨no, uo, ul, wo, dl, nc, uc, ulc, wc, dlc⟩ h, .int .i64 s] w fun e w' => UA h s (dnL h) w e w' := by
  obtain ⟨z, hz⟩ : ∃ z, w.heap.size = z := ⟨_, rfl⟩
  obtain ⟨W0, hW0⟩ : ∃ W0, (w.alloc (.cells #[.slice no h.node.length nc, .slice uo h.upF.length uc, .slice ul h.up.length ulc, .slice wo h.dnF.length wc, .slice dl h.dn.length dlc] 25)).alloc (.cells #[.int .i64 0, .slice none 0 0] 42) = W0 := ⟨_, rfl⟩
  have hB0 : Below w.heap.size w W0 := by rw [← hW0]; exact ((Below.refl _ w).alloc (Nat.le_refl _) _).alloc (by simp) _
  have h0 : W0.heap[z]? = some (.cells #[.slice no h.node.length nc, .slice uo h.upF.length uc, .slice ul h.up.length ulc, .slice wo h.dnF.length wc, .slice dl h.dn.length dlc] 25) := by
    rw [← hW0, ← hz]; exact (Below.heap_alloc _ _ _ (by simp)).trans (heap_newW _ _)
  have h1 : W0.heap[z + 1]? = some (.cells #[.int .i64 0, .slice none 0 0] 42) := by
    have g := heap_newW (w.alloc (.cells #[.slice no h.node.length nc, .slice uo h.upF.length uc, .slice ul h.up.length ulc, .slice wo h.dnF.length wc, .slice dl h.dn.length dlc] 25)) (.cells #[.int .i64 0, .slice none 0 0] 42)
    rw [World.size_alloc, hW0, hz] at g
    exact g
  have HS0 : Hid (z + 1 < W0.heap.size) := some_lt h1
  have HQ : Hid (∀ wx, Below W0.heap.size W0 wx → wx.heap[z]? = some (.cells #[.slice no h.node.length nc, .slice uo h.upF.length uc, .slice ul h.up.length ulc, .slice wo h.dnF.length wc, .slice dl h.dn.length dlc] 25) ∧ wx.heap[z + 1]? = some (.cells #[.int .i64 0, .slice none 0 0] 42) ∧ HasH wx ⟨no, uo, ul, wo, dl, nc, uc, ulc, wc, dlc⟩ h ∧ Below w.heap.size w wx) := fun wx hx => by
    have g := hB0.trans (hx.mono hB0.size)
    exact ⟨(hx.block _ (some_lt h0)).trans h0, (hx.block _ (some_lt h1)).trans h1, hH.keep g, g⟩
  have HSZ : Hid (∀ (wx : World) (x y : Value), Below w.heap.size w wx → Below w.heap.size w ((wx.setCell ⟨z + 1, 0, none⟩ x).setCell ⟨z + 1, 1, none⟩ y)) := fun wx x y hx => (hx.setCell (p := ⟨z + 1, 0, none⟩) (by show w.heap.size ≤ z + 1; omega) _).setCell (p := ⟨z + 1, 1, none⟩) (by show w.heap.size ≤ z + 1; omega) _
  have HZQ : Hid (∀ q, W0.heap.size ≤ q → q ≠ z + 1 ∧ q ≠ z) := fun q hq => by have := HS0.out; omega
  have HW0 : Hid ((w.alloc (.cells #[.slice no h.node.length nc, .slice uo h.upF.length uc, .slice ul h.up.length ulc, .slice wo h.dnF.length wc, .slice dl h.dn.length dlc] 25)).alloc (.cells #[.int .i64 0, .slice none 0 0] 42) = W0) := hW0
  have HB0 : Hid (Below W0.heap.size W0 W0) := Below.refl _ _
  have HDC : Hid (∀ wx, Below W0.heap.size W0 wx → Calls Try.prog 22 #[hvl ⟨no, uo, ul, wo, dl, nc, uc, ulc, wc, dlc⟩ h] wx fun e w' => RA wx (chk h) e w') := fun wx hx => docCheck10_calls _ h wx (HQ.out wx hx).2.2.1 hb1 hb2 hb3
  have HUP : Hid (chk h = (0, []) → ∀ s' : Nat, s' < h.node.length → (∀ wx, HasH wx ⟨no, uo, ul, wo, dl, nc, uc, ulc, wc, dlc⟩ h → Calls Try.prog 26 #[hvl ⟨no, uo, ul, wo, dl, nc, uc, ulc, wc, dlc⟩ h] wx fun e w' => ∃ u, e = .returned (hvl u (turnH h)) ∧ HasH w' u (turnH h) ∧ Below wx.heap.size wx w') ∧ ∀ (u : HV) wx, HasH wx u (turnH h) → Calls Try.prog 25 #[hvl u (turnH h), .int .i64 (s' : Int)] wx fun e w' => ∃ (mo : Option Addr) (mc : Nat) (X : List (Nat × Int × Bool)), X = dnL h s' ∧ e = .returned (.slice mo X.length mc) ∧ w'.ownsRow wx.heap.size 49 3 (.slice mo X.length mc) X.length (snv X) ∧ Below wx.heap.size wx w') := fun hc s' hs => ⟨fun wx hx => rTurn_calls _ h wx hx (reach_chk hc) hc, fun u wx hx => by rw [← up_turn]; exact rUp_calls u (turnH h) s' wx hx (turn_chk hc) hs⟩
  clear hW0 h0 h1 hB0 hH
  unfold hvl at HDC HUP ⊢
  simp only at HDC HUP ⊢
  go_enter Try.func11, Try.ntmps11
  go_upto_region 1 with fail
  rw [HW0.out]
  clear HW0 hz
  obtain ⟨c0, c1, c2, c3, c4⟩ := five_cells (HQ.out W0 HB0.out).1
  go_wp2_with fail
  refine (HDC.out W0 HB0.out).mono ?_
  rintro e w1 ⟨lo, lc, rfl, hp, hb⟩
  obtain ⟨E, hE⟩ : ∃ E, chk h = E := ⟨_, rfl⟩
  have HE : Hid (chk h = E) := hE
  rw [hE] at hp ⊢
  obtain ⟨q, hq⟩ : ∃ q, w1.heap.size = q := ⟨_, rfl⟩
  obtain ⟨W2, hW2⟩ : ∃ W2, w1.alloc (.cells #[.int .i64 E.1, .slice lo E.2.length lc] 42) = W2 := ⟨_, rfl⟩
  have HW2 : Hid (w1.alloc (.cells #[.int .i64 E.1, .slice lo E.2.length lc] 42) = W2) := hW2
  have H2 : Hid (∀ wx, Below W2.heap.size W2 wx → wx.heap[q]? = some (.cells #[.int .i64 E.1, .slice lo E.2.length lc] 42) ∧ HasPlaces wx (.slice lo E.2.length lc) E.2 ∧ Below W0.heap.size W0 wx) := fun wx hx => by
    have g1 : W2.heap[q]? = some (.cells #[.int .i64 E.1, .slice lo E.2.length lc] 42) := by rw [← hW2, ← hq]; exact heap_newW _ _
    have g2 : Below w1.heap.size w1 W2 := by rw [← hW2]; exact (Below.refl _ _).alloc (Nat.le_refl _) _
    have g3 := btrH' g2 hx
    exact ⟨(hx.block _ (some_lt g1)).trans g1, hp.keep g3, btrH' hb g3⟩
  have HQ0 : Hid (W0.heap.size ≤ q ∧ q < W2.heap.size) := ⟨by rw [← hq]; exact hb.size, by rw [← hW2, ← hq]; simp⟩
  clear hp hb hW2 c0 c1 c2 c3 c4 hE
  go_upto_region 2 with fail
  rw [HW2.out]
  clear HW2 hq
  obtain ⟨q0, q1, _, _⟩ := cell_two (H2.out W2 (Below.refl _ _)).1
  go_wp2_with fail
  refine (Hi.bad_calls E.1 lo E.2.length lc W2).mono ?_
  rintro e w3 ⟨rfl, hb⟩
  rw [bad_iff]
  have HB3 : Hid (Below W2.heap.size W2 w3) := hb
  clear hb q0 q1
  obtain ⟨q0, q1, f0, f1⟩ := cell_two (H2.out w3 HB3.out).1
  obtain ⟨c0, c1, c2, c3, c4⟩ := five_cells (HQ.out w3 (H2.out w3 HB3.out).2.2).1
  by_cases hc : E = (0, [])
  · have j1 : decide (E = (0, [])) = true := by simpa using hc
    have HE0 : Hid (E = (0, [])) := hc
    clear hc
    by_cases hneg : s < 0
    · have HRF : Hid (Ans h s (dnL h) [] (7, [])) := Or.inl ⟨Or.inr (Or.inl hneg), rfl, (cErr_no (by rw [HE.out]; exact HE0.out)).symm⟩
      have i1 : decide (s < 0) = true := by simpa using hneg
      clear hneg
      go_wp2_with fail
      refine (E_calls 7 w3).mono ?_
      rintro e w4 ⟨rfl, hb⟩
      have HB4 : Hid (Below W2.heap.size W2 w4) := btrH' HB3.out hb
      clear hb q0 q1 f0 f1 c0 c1 c2 c3 c4
      obtain ⟨q0, q1, f0, f1⟩ := cell_two (H2.out w4 HB4.out).1
      obtain ⟨W5, hW5⟩ : ∃ W5, (w4.setCell ⟨q, 0, none⟩ (.int .i64 7)).setCell ⟨q, 1, none⟩ (.slice none 0 0) = W5 := ⟨_, rfl⟩
      have HW5 : Hid ((w4.setCell ⟨q, 0, none⟩ (.int .i64 7)).setCell ⟨q, 1, none⟩ (.slice none 0 0) = W5) := hW5
      have HF5 : Hid (∀ wx, Below W5.heap.size W5 wx → wx.heap[q]? = some (.cells #[.int .i64 7, .slice none 0 0] 42) ∧ HasPlaces wx (.slice none 0 0) [] ∧ wx.heap[z]? = some (.cells #[.slice no h.node.length nc, .slice uo h.upF.length uc, .slice ul h.up.length ulc, .slice wo h.dnF.length wc, .slice dl h.dn.length dlc] 25) ∧ wx.heap[z + 1]? = some (.cells #[.int .i64 0, .slice none 0 0] 42) ∧ Below w.heap.size w wx) := fun wx hx => by
        obtain ⟨g1, g2, g3⟩ := H2.out w4 HB4.out
        obtain ⟨a1, a2, _, a4⟩ := HQ.out w4 g3
        obtain ⟨n1, n2⟩ := HZQ.out q HQ0.out.1
        have e1 : W5.heap[q]? = some (.cells #[.int .i64 7, .slice none 0 0] 42) := by rw [← hW5]; exact set_err g1 _ _
        have e2 : W5.heap[z]? = some (.cells #[.slice no h.node.length nc, .slice uo h.upF.length uc, .slice ul h.up.length ulc, .slice wo h.dnF.length wc, .slice dl h.dn.length dlc] 25) := by rw [← hW5]; exact (Below.heap_setCell _ _ _ _ (Ne.symm n2)).trans ((Below.heap_setCell _ _ _ _ (Ne.symm n2)).trans a1)
        have e3 : W5.heap[z + 1]? = some (.cells #[.int .i64 0, .slice none 0 0] 42) := by rw [← hW5]; exact (Below.heap_setCell _ _ _ _ (Ne.symm n1)).trans ((Below.heap_setCell _ _ _ _ (Ne.symm n1)).trans a2)
        have hwq : w.heap.size ≤ q := Nat.le_trans (HQ.out W0 HB0.out).2.2.2.size HQ0.out.1
        have e4 : Below w.heap.size w W5 := by rw [← hW5]; exact (a4.setCell (p := ⟨q, 0, none⟩) hwq _).setCell (p := ⟨q, 1, none⟩) hwq _
        exact ⟨(hx.block _ (some_lt e1)).trans e1, pl_nil _, (hx.block _ (some_lt e2)).trans e2, (hx.block _ (some_lt e3)).trans e3, e4.trans (hx.mono e4.size)⟩
      clear hW5
      go_upto_region 4 with fail
      rw [HW5.out]
      clear HW5 q0 q1 f0 f1
      obtain ⟨q0, q1, _, _⟩ := cell_two (HF5.out W5 (Below.refl _ _)).1
      go_wp2_with fail
      refine (Hi.bad_calls 7 none 0 0 W5).mono ?_
      rintro e w6 ⟨rfl, hb⟩
      have HB6 : Hid (Below W5.heap.size W5 w6) := hb
      clear hb q0 q1
      have HF4 : Hid (∀ wx, Below w6.heap.size w6 wx → wx.heap[q]? = some (.cells #[.int .i64 7, .slice none 0 0] 42) ∧ HasPlaces wx (.slice none 0 0) [] ∧ wx.heap[z]? = some (.cells #[.slice no h.node.length nc, .slice uo h.upF.length uc, .slice ul h.up.length ulc, .slice wo h.dnF.length wc, .slice dl h.dn.length dlc] 25) ∧ wx.heap[z + 1]? = some (.cells #[.int .i64 0, .slice none 0 0] 42) ∧ Below w.heap.size w wx) := fun wx hx => HF5.out wx (btrH' HB6.out hx)
      obtain ⟨q0, q1, _, _⟩ := cell_two (HF4.out w6 (Below.refl _ _)).1
      go_wp2_with fail
      have HSS : Hid (∀ wx : World, (wx.heap[z]? = some (.cells #[.slice no h.node.length nc, .slice uo h.upF.length uc, .slice ul h.up.length ulc, .slice wo h.dnF.length wc, .slice dl h.dn.length dlc] 25) ∧ wx.heap[q]? = some (.cells #[.int .i64 7, .slice none 0 0] 42)) → (fun w' => w'.cell? ⟨z, 0, none⟩ = some (.slice no h.node.length nc) ∧ w'.cell? ⟨z, 1, none⟩ = some (.slice uo h.upF.length uc) ∧ w'.cell? ⟨z, 2, none⟩ = some (.slice ul h.up.length ulc) ∧ w'.cell? ⟨z, 3, none⟩ = some (.slice wo h.dnF.length wc) ∧ w'.cell? ⟨z, 4, none⟩ = some (.slice dl h.dn.length dlc) ∧ w'.cell? ⟨q, 0, none⟩ = some (.int .i64 7) ∧ w'.cell? ⟨q, 1, none⟩ = some (.slice none 0 0) ∧ Hid (w'.heap[z]? = some (.cells #[.slice no h.node.length nc, .slice uo h.upF.length uc, .slice ul h.up.length ulc, .slice wo h.dnF.length wc, .slice dl h.dn.length dlc] 25) ∧ w'.heap[q]? = some (.cells #[.int .i64 7, .slice none 0 0] 42))) wx) := fun wx hx => by
        obtain ⟨a0, a1, a2, a3, a4⟩ := five_cells hx.1
        obtain ⟨b0, b1, _, _⟩ := cell_two hx.2
        exact ⟨a0, a1, a2, a3, a4, b0, b1, hx⟩
      clear q0 q1
      refine wp_region_M (S := (fun w' => w'.cell? ⟨z, 0, none⟩ = some (.slice no h.node.length nc) ∧ w'.cell? ⟨z, 1, none⟩ = some (.slice uo h.upF.length uc) ∧ w'.cell? ⟨z, 2, none⟩ = some (.slice ul h.up.length ulc) ∧ w'.cell? ⟨z, 3, none⟩ = some (.slice wo h.dnF.length wc) ∧ w'.cell? ⟨z, 4, none⟩ = some (.slice dl h.dn.length dlc) ∧ w'.cell? ⟨q, 0, none⟩ = some (.int .i64 7) ∧ w'.cell? ⟨q, 1, none⟩ = some (.slice none 0 0) ∧ Hid (w'.heap[z]? = some (.cells #[.slice no h.node.length nc, .slice uo h.upF.length uc, .slice ul h.up.length ulc, .slice wo h.dnF.length wc, .slice dl h.dn.length dlc] 25) ∧ w'.heap[q]? = some (.cells #[.int .i64 7, .slice none 0 0] 42)))) (by kernel_rfl) (HSS.out _ ⟨(HF4.out _ (Below.refl _ _).drew).2.2.1, (HF4.out _ (Below.refl _ _).drew).1⟩) ?_
      refine wpAnyM_take (i := 0) (oi := { dst := Option.some 26, op := Op.load 42 (Operand.tmp 6), type := 42, pos := "ref.go:73", after := #[{ on := 1, ground := Ground.gcOnly Departure.lateStores }], guard := Option.none }) (v := ?ve11z0) rfl (by kernel_rfl) (by kernel_rfl) (by kernel_rfl) (fun _ _ _ h => h) (YieldsM.of_if (Or.inl ⟨by rfl, ?he11z0⟩)) ?re11z0
      case he11z0 => ((intro wz hSw; (try dsimp only at hSw); go_simp); try (with_reducible rfl))
      try simp only [Act.put, List.setIfInBounds_toArray, List.set_cons_zero, List.set_cons_succ]
      refine wpAnyM_take (i := 1) (oi := { dst := Option.some 4, op := Op.assign (Operand.const (Value.slice Option.none 0 0)), type := 39, pos := "ref.go:73", after := #[{ on := 0, ground := Ground.textOnly Departure.lateStores }], guard := Option.none }) (v := ?ve12z1) rfl (by kernel_rfl) (by kernel_rfl) (by kernel_rfl) (fun _ _ _ h => h) (YieldsM.of_if (Or.inl ⟨by rfl, ?he12z1⟩)) ?re12z1
      case he12z1 => ((intro wz hSw; (try dsimp only at hSw); go_simp); try (with_reducible rfl))
      try simp only [Act.put, List.setIfInBounds_toArray, List.set_cons_zero, List.set_cons_succ]
      refine readyM (i := 2) (o := { dst := Option.none, op := Op.store 42 (Operand.tmp 5) (Operand.tmp 26), type := 0, pos := "ref.go:73", after := #[{ on := 0, ground := Ground.data }, { on := 1, ground := Ground.chain }, { on := 0, ground := Ground.phase }, { on := 1, ground := Ground.phase }], guard := Option.none }) rfl (by kernel_rfl) ?_
      intro u1 hg1 hS1 K hK
      obtain ⟨g1, g2, g3, g4, g5⟩ := HF4.out u1 (btrH' (Below.refl _ _).drew hg1)
      obtain ⟨d0, d1, f0, f1⟩ := cell_two g4
      have HT : Hid (((u1.setCell ⟨z + 1, 0, none⟩ (.int .i64 7)).setCell ⟨z + 1, 1, none⟩ (.slice none 0 0)).heap[z + 1]? = some (.cells #[.int .i64 7, .slice none 0 0] 42) ∧ (((u1.setCell ⟨z + 1, 0, none⟩ (.int .i64 7)).setCell ⟨z + 1, 1, none⟩ (.slice none 0 0)).heap[z]? = some (.cells #[.slice no h.node.length nc, .slice uo h.upF.length uc, .slice ul h.up.length ulc, .slice wo h.dnF.length wc, .slice dl h.dn.length dlc] 25) ∧ ((u1.setCell ⟨z + 1, 0, none⟩ (.int .i64 7)).setCell ⟨z + 1, 1, none⟩ (.slice none 0 0)).heap[q]? = some (.cells #[.int .i64 7, .slice none 0 0] 42)) ∧ HasPlaces ((u1.setCell ⟨z + 1, 0, none⟩ (.int .i64 7)).setCell ⟨z + 1, 1, none⟩ (.slice none 0 0)) (.slice none 0 0) [] ∧ Below w.heap.size w ((u1.setCell ⟨z + 1, 0, none⟩ (.int .i64 7)).setCell ⟨z + 1, 1, none⟩ (.slice none 0 0))) := ⟨set_err g4 _ _, ⟨(Below.heap_setCell _ _ _ _ (by show z ≠ z + 1; omega)).trans ((Below.heap_setCell _ _ _ _ (by show z ≠ z + 1; omega)).trans g3), (Below.heap_setCell _ _ _ _ (by exact (HZQ.out q HQ0.out.1).1)).trans ((Below.heap_setCell _ _ _ _ (by exact (HZQ.out q HQ0.out.1).1)).trans g1)⟩, pl_sets (F := (7, [])) g4 g2 _ _, HSZ.out _ _ _ g5⟩
      clear hS1 g1 g2 g3 g4 g5 hg1
      go_simp
      refine hK.out _ _ (HSS.out _ HT.out.2.1) ?_
      clear hK K d0 d1 f0 f1
      try simp only [Act.put, List.setIfInBounds_toArray, List.set_cons_zero, List.set_cons_succ]
      generalize ((u1.setCell ⟨z + 1, 0, none⟩ (.int .i64 7)).setCell ⟨z + 1, 1, none⟩ (.slice none 0 0)) = U2 at HT ⊢
      refine wpAnyM_done (by kernel_rfl) ?_ _
      intro u9 hg9 hS9
      have H9 : Hid (u9.heap[z + 1]? = some (.cells #[.int .i64 7, .slice none 0 0] 42) ∧ HasPlaces u9 (.slice none 0 0) [] ∧ Below w.heap.size w u9) := ⟨(Below.block hg9 _ (some_lt HT.out.1)).trans HT.out.1, HT.out.2.2.1.keep hg9, HT.out.2.2.2.trans (hg9.mono HT.out.2.2.2.size)⟩
      clear hS9 hg9 HT
      go_wp2
      exact bodyPost_ret (docDown_res H9.out.1 rfl rfl) rfl ⟨[], (7, []), HRF.out, none, 0, none, 0, rfl, World.ownsRow_nil _ _ _ _, H9.out.2.1, H9.out.2.2⟩
    have i1 : decide (s < 0) = false := by simpa using hneg
    by_cases hge : (h.node.length : Int) ≤ s
    · have HRF : Hid (Ans h s (dnL h) [] (7, [])) := Or.inl ⟨Or.inr (Or.inr hge), rfl, (cErr_no (by rw [HE.out]; exact HE0.out)).symm⟩
      have i2 : decide (s ≥ (h.node.length : Int)) = true := by simpa using hge
      have i3 : decide ((h.node.length : Int) ≤ s) = true := by simpa using hge
      clear hneg hge
      go_wp2_with fail
      refine (E_calls 7 w3).mono ?_
      rintro e w4 ⟨rfl, hb⟩
      have HB4 : Hid (Below W2.heap.size W2 w4) := btrH' HB3.out hb
      clear hb q0 q1 f0 f1 c0 c1 c2 c3 c4
      obtain ⟨q0, q1, f0, f1⟩ := cell_two (H2.out w4 HB4.out).1
      obtain ⟨W5, hW5⟩ : ∃ W5, (w4.setCell ⟨q, 0, none⟩ (.int .i64 7)).setCell ⟨q, 1, none⟩ (.slice none 0 0) = W5 := ⟨_, rfl⟩
      have HW5 : Hid ((w4.setCell ⟨q, 0, none⟩ (.int .i64 7)).setCell ⟨q, 1, none⟩ (.slice none 0 0) = W5) := hW5
      have HF5 : Hid (∀ wx, Below W5.heap.size W5 wx → wx.heap[q]? = some (.cells #[.int .i64 7, .slice none 0 0] 42) ∧ HasPlaces wx (.slice none 0 0) [] ∧ wx.heap[z]? = some (.cells #[.slice no h.node.length nc, .slice uo h.upF.length uc, .slice ul h.up.length ulc, .slice wo h.dnF.length wc, .slice dl h.dn.length dlc] 25) ∧ wx.heap[z + 1]? = some (.cells #[.int .i64 0, .slice none 0 0] 42) ∧ Below w.heap.size w wx) := fun wx hx => by
        obtain ⟨g1, g2, g3⟩ := H2.out w4 HB4.out
        obtain ⟨a1, a2, _, a4⟩ := HQ.out w4 g3
        obtain ⟨n1, n2⟩ := HZQ.out q HQ0.out.1
        have e1 : W5.heap[q]? = some (.cells #[.int .i64 7, .slice none 0 0] 42) := by rw [← hW5]; exact set_err g1 _ _
        have e2 : W5.heap[z]? = some (.cells #[.slice no h.node.length nc, .slice uo h.upF.length uc, .slice ul h.up.length ulc, .slice wo h.dnF.length wc, .slice dl h.dn.length dlc] 25) := by rw [← hW5]; exact (Below.heap_setCell _ _ _ _ (Ne.symm n2)).trans ((Below.heap_setCell _ _ _ _ (Ne.symm n2)).trans a1)
        have e3 : W5.heap[z + 1]? = some (.cells #[.int .i64 0, .slice none 0 0] 42) := by rw [← hW5]; exact (Below.heap_setCell _ _ _ _ (Ne.symm n1)).trans ((Below.heap_setCell _ _ _ _ (Ne.symm n1)).trans a2)
        have hwq : w.heap.size ≤ q := Nat.le_trans (HQ.out W0 HB0.out).2.2.2.size HQ0.out.1
        have e4 : Below w.heap.size w W5 := by rw [← hW5]; exact (a4.setCell (p := ⟨q, 0, none⟩) hwq _).setCell (p := ⟨q, 1, none⟩) hwq _
        exact ⟨(hx.block _ (some_lt e1)).trans e1, pl_nil _, (hx.block _ (some_lt e2)).trans e2, (hx.block _ (some_lt e3)).trans e3, e4.trans (hx.mono e4.size)⟩
      clear hW5
      go_upto_region 4 with fail
      rw [HW5.out]
      clear HW5 q0 q1 f0 f1
      obtain ⟨q0, q1, _, _⟩ := cell_two (HF5.out W5 (Below.refl _ _)).1
      go_wp2_with fail
      refine (Hi.bad_calls 7 none 0 0 W5).mono ?_
      rintro e w6 ⟨rfl, hb⟩
      have HB6 : Hid (Below W5.heap.size W5 w6) := hb
      clear hb q0 q1
      have HF4 : Hid (∀ wx, Below w6.heap.size w6 wx → wx.heap[q]? = some (.cells #[.int .i64 7, .slice none 0 0] 42) ∧ HasPlaces wx (.slice none 0 0) [] ∧ wx.heap[z]? = some (.cells #[.slice no h.node.length nc, .slice uo h.upF.length uc, .slice ul h.up.length ulc, .slice wo h.dnF.length wc, .slice dl h.dn.length dlc] 25) ∧ wx.heap[z + 1]? = some (.cells #[.int .i64 0, .slice none 0 0] 42) ∧ Below w.heap.size w wx) := fun wx hx => HF5.out wx (btrH' HB6.out hx)
      obtain ⟨q0, q1, _, _⟩ := cell_two (HF4.out w6 (Below.refl _ _)).1
      go_wp2_with fail
      have HSS : Hid (∀ wx : World, (wx.heap[z]? = some (.cells #[.slice no h.node.length nc, .slice uo h.upF.length uc, .slice ul h.up.length ulc, .slice wo h.dnF.length wc, .slice dl h.dn.length dlc] 25) ∧ wx.heap[q]? = some (.cells #[.int .i64 7, .slice none 0 0] 42)) → (fun w' => w'.cell? ⟨z, 0, none⟩ = some (.slice no h.node.length nc) ∧ w'.cell? ⟨z, 1, none⟩ = some (.slice uo h.upF.length uc) ∧ w'.cell? ⟨z, 2, none⟩ = some (.slice ul h.up.length ulc) ∧ w'.cell? ⟨z, 3, none⟩ = some (.slice wo h.dnF.length wc) ∧ w'.cell? ⟨z, 4, none⟩ = some (.slice dl h.dn.length dlc) ∧ w'.cell? ⟨q, 0, none⟩ = some (.int .i64 7) ∧ w'.cell? ⟨q, 1, none⟩ = some (.slice none 0 0) ∧ Hid (w'.heap[z]? = some (.cells #[.slice no h.node.length nc, .slice uo h.upF.length uc, .slice ul h.up.length ulc, .slice wo h.dnF.length wc, .slice dl h.dn.length dlc] 25) ∧ w'.heap[q]? = some (.cells #[.int .i64 7, .slice none 0 0] 42))) wx) := fun wx hx => by
        obtain ⟨a0, a1, a2, a3, a4⟩ := five_cells hx.1
        obtain ⟨b0, b1, _, _⟩ := cell_two hx.2
        exact ⟨a0, a1, a2, a3, a4, b0, b1, hx⟩
      clear q0 q1
      refine wp_region_M (S := (fun w' => w'.cell? ⟨z, 0, none⟩ = some (.slice no h.node.length nc) ∧ w'.cell? ⟨z, 1, none⟩ = some (.slice uo h.upF.length uc) ∧ w'.cell? ⟨z, 2, none⟩ = some (.slice ul h.up.length ulc) ∧ w'.cell? ⟨z, 3, none⟩ = some (.slice wo h.dnF.length wc) ∧ w'.cell? ⟨z, 4, none⟩ = some (.slice dl h.dn.length dlc) ∧ w'.cell? ⟨q, 0, none⟩ = some (.int .i64 7) ∧ w'.cell? ⟨q, 1, none⟩ = some (.slice none 0 0) ∧ Hid (w'.heap[z]? = some (.cells #[.slice no h.node.length nc, .slice uo h.upF.length uc, .slice ul h.up.length ulc, .slice wo h.dnF.length wc, .slice dl h.dn.length dlc] 25) ∧ w'.heap[q]? = some (.cells #[.int .i64 7, .slice none 0 0] 42)))) (by kernel_rfl) (HSS.out _ ⟨(HF4.out _ (Below.refl _ _).drew).2.2.1, (HF4.out _ (Below.refl _ _).drew).1⟩) ?_
      refine wpAnyM_take (i := 0) (oi := { dst := Option.some 26, op := Op.load 42 (Operand.tmp 6), type := 42, pos := "ref.go:73", after := #[{ on := 1, ground := Ground.gcOnly Departure.lateStores }], guard := Option.none }) (v := ?vbe11z0) rfl (by kernel_rfl) (by kernel_rfl) (by kernel_rfl) (fun _ _ _ h => h) (YieldsM.of_if (Or.inl ⟨by rfl, ?hbe11z0⟩)) ?rbe11z0
      case hbe11z0 => ((intro wz hSw; (try dsimp only at hSw); go_simp); try (with_reducible rfl))
      try simp only [Act.put, List.setIfInBounds_toArray, List.set_cons_zero, List.set_cons_succ]
      refine wpAnyM_take (i := 1) (oi := { dst := Option.some 4, op := Op.assign (Operand.const (Value.slice Option.none 0 0)), type := 39, pos := "ref.go:73", after := #[{ on := 0, ground := Ground.textOnly Departure.lateStores }], guard := Option.none }) (v := ?vbe12z1) rfl (by kernel_rfl) (by kernel_rfl) (by kernel_rfl) (fun _ _ _ h => h) (YieldsM.of_if (Or.inl ⟨by rfl, ?hbe12z1⟩)) ?rbe12z1
      case hbe12z1 => ((intro wz hSw; (try dsimp only at hSw); go_simp); try (with_reducible rfl))
      try simp only [Act.put, List.setIfInBounds_toArray, List.set_cons_zero, List.set_cons_succ]
      refine readyM (i := 2) (o := { dst := Option.none, op := Op.store 42 (Operand.tmp 5) (Operand.tmp 26), type := 0, pos := "ref.go:73", after := #[{ on := 0, ground := Ground.data }, { on := 1, ground := Ground.chain }, { on := 0, ground := Ground.phase }, { on := 1, ground := Ground.phase }], guard := Option.none }) rfl (by kernel_rfl) ?_
      intro u1 hg1 hS1 K hK
      obtain ⟨g1, g2, g3, g4, g5⟩ := HF4.out u1 (btrH' (Below.refl _ _).drew hg1)
      obtain ⟨d0, d1, f0, f1⟩ := cell_two g4
      have HT : Hid (((u1.setCell ⟨z + 1, 0, none⟩ (.int .i64 7)).setCell ⟨z + 1, 1, none⟩ (.slice none 0 0)).heap[z + 1]? = some (.cells #[.int .i64 7, .slice none 0 0] 42) ∧ (((u1.setCell ⟨z + 1, 0, none⟩ (.int .i64 7)).setCell ⟨z + 1, 1, none⟩ (.slice none 0 0)).heap[z]? = some (.cells #[.slice no h.node.length nc, .slice uo h.upF.length uc, .slice ul h.up.length ulc, .slice wo h.dnF.length wc, .slice dl h.dn.length dlc] 25) ∧ ((u1.setCell ⟨z + 1, 0, none⟩ (.int .i64 7)).setCell ⟨z + 1, 1, none⟩ (.slice none 0 0)).heap[q]? = some (.cells #[.int .i64 7, .slice none 0 0] 42)) ∧ HasPlaces ((u1.setCell ⟨z + 1, 0, none⟩ (.int .i64 7)).setCell ⟨z + 1, 1, none⟩ (.slice none 0 0)) (.slice none 0 0) [] ∧ Below w.heap.size w ((u1.setCell ⟨z + 1, 0, none⟩ (.int .i64 7)).setCell ⟨z + 1, 1, none⟩ (.slice none 0 0))) := ⟨set_err g4 _ _, ⟨(Below.heap_setCell _ _ _ _ (by show z ≠ z + 1; omega)).trans ((Below.heap_setCell _ _ _ _ (by show z ≠ z + 1; omega)).trans g3), (Below.heap_setCell _ _ _ _ (by exact (HZQ.out q HQ0.out.1).1)).trans ((Below.heap_setCell _ _ _ _ (by exact (HZQ.out q HQ0.out.1).1)).trans g1)⟩, pl_sets (F := (7, [])) g4 g2 _ _, HSZ.out _ _ _ g5⟩
      clear hS1 g1 g2 g3 g4 g5 hg1
      go_simp
      refine hK.out _ _ (HSS.out _ HT.out.2.1) ?_
      clear hK K d0 d1 f0 f1
      try simp only [Act.put, List.setIfInBounds_toArray, List.set_cons_zero, List.set_cons_succ]
      generalize ((u1.setCell ⟨z + 1, 0, none⟩ (.int .i64 7)).setCell ⟨z + 1, 1, none⟩ (.slice none 0 0)) = U2 at HT ⊢
      refine wpAnyM_done (by kernel_rfl) ?_ _
      intro u9 hg9 hS9
      have H9 : Hid (u9.heap[z + 1]? = some (.cells #[.int .i64 7, .slice none 0 0] 42) ∧ HasPlaces u9 (.slice none 0 0) [] ∧ Below w.heap.size w u9) := ⟨(Below.block hg9 _ (some_lt HT.out.1)).trans HT.out.1, HT.out.2.2.1.keep hg9, HT.out.2.2.2.trans (hg9.mono HT.out.2.2.2.size)⟩
      clear hS9 hg9 HT
      go_wp2
      exact bodyPost_ret (docDown_res H9.out.1 rfl rfl) rfl ⟨[], (7, []), HRF.out, none, 0, none, 0, rfl, World.ownsRow_nil _ _ _ _, H9.out.2.1, H9.out.2.2⟩
    obtain ⟨s', rfl⟩ : ∃ s' : Nat, s = (s' : Int) := ⟨s.toNat, by omega⟩
    have hs : s' < h.node.length := by omega
    have i2 : decide ((s' : Int) ≥ (h.node.length : Int)) = false := by simp; omega
    have i3 : decide (h.node.length ≤ s') = false := by simp; omega
    have HNR : Hid (¬ Refuses h (s' : Int)) := fun g => by
      rcases g with g | g | g
      · exact g (by rw [HE.out]; exact HE0.out)
      · omega
      · omega
    have HTU : Hid (type_of% (HUP.out (by rw [HE.out]; exact HE0.out) s' hs).1) := (HUP.out (by rw [HE.out]; exact HE0.out) s' hs).1
    have HUS : Hid (type_of% (HUP.out (by rw [HE.out]; exact HE0.out) s' hs).2) := (HUP.out (by rw [HE.out]; exact HE0.out) s' hs).2
    clear hneg hge hs
    go_wp2_with fail
    refine (Hi.bad_calls E.1 lo E.2.length lc w3).mono ?_
    rintro e w4 ⟨rfl, hb⟩
    rw [bad_iff]
    have HB4 : Hid (Below W2.heap.size W2 w4) := btrH' HB3.out hb
    clear hb q0 q1 f0 f1 c0 c1 c2 c3 c4
    obtain ⟨q0, q1, _, _⟩ := cell_two (H2.out w4 HB4.out).1
    go_wp2_with fail
    have HSS : Hid (∀ wx : World, (wx.heap[z]? = some (.cells #[.slice no h.node.length nc, .slice uo h.upF.length uc, .slice ul h.up.length ulc, .slice wo h.dnF.length wc, .slice dl h.dn.length dlc] 25) ∧ wx.heap[q]? = some (.cells #[.int .i64 E.1, .slice lo E.2.length lc] 42)) → (fun w' => w'.cell? ⟨z, 0, none⟩ = some (.slice no h.node.length nc) ∧ w'.cell? ⟨z, 1, none⟩ = some (.slice uo h.upF.length uc) ∧ w'.cell? ⟨z, 2, none⟩ = some (.slice ul h.up.length ulc) ∧ w'.cell? ⟨z, 3, none⟩ = some (.slice wo h.dnF.length wc) ∧ w'.cell? ⟨z, 4, none⟩ = some (.slice dl h.dn.length dlc) ∧ w'.cell? ⟨q, 0, none⟩ = some (.int .i64 E.1) ∧ w'.cell? ⟨q, 1, none⟩ = some (.slice lo E.2.length lc) ∧ Hid (w'.heap[z]? = some (.cells #[.slice no h.node.length nc, .slice uo h.upF.length uc, .slice ul h.up.length ulc, .slice wo h.dnF.length wc, .slice dl h.dn.length dlc] 25) ∧ w'.heap[q]? = some (.cells #[.int .i64 E.1, .slice lo E.2.length lc] 42))) wx) := fun wx hx => by
      obtain ⟨a0, a1, a2, a3, a4⟩ := five_cells hx.1
      obtain ⟨b0, b1, _, _⟩ := cell_two hx.2
      exact ⟨a0, a1, a2, a3, a4, b0, b1, hx⟩
    clear q0 q1
    refine wp_region_M (S := (fun w' => w'.cell? ⟨z, 0, none⟩ = some (.slice no h.node.length nc) ∧ w'.cell? ⟨z, 1, none⟩ = some (.slice uo h.upF.length uc) ∧ w'.cell? ⟨z, 2, none⟩ = some (.slice ul h.up.length ulc) ∧ w'.cell? ⟨z, 3, none⟩ = some (.slice wo h.dnF.length wc) ∧ w'.cell? ⟨z, 4, none⟩ = some (.slice dl h.dn.length dlc) ∧ w'.cell? ⟨q, 0, none⟩ = some (.int .i64 E.1) ∧ w'.cell? ⟨q, 1, none⟩ = some (.slice lo E.2.length lc) ∧ Hid (w'.heap[z]? = some (.cells #[.slice no h.node.length nc, .slice uo h.upF.length uc, .slice ul h.up.length ulc, .slice wo h.dnF.length wc, .slice dl h.dn.length dlc] 25) ∧ w'.heap[q]? = some (.cells #[.int .i64 E.1, .slice lo E.2.length lc] 42)))) (by kernel_rfl) (HSS.out _ ⟨(HQ.out _ (H2.out _ (btrH' HB4.out (Below.refl _ _).drew)).2.2).1, (H2.out _ (btrH' HB4.out (Below.refl _ _).drew)).1⟩) ?_
    refine wpAnyM_take (i := 0) (oi := { dst := Option.some 27, op := Op.load 25 (Operand.tmp 2), type := 25, pos := "ref.go:75", after := #[], guard := Option.none }) (v := ?vg13z0) rfl (by kernel_rfl) (by kernel_rfl) (by kernel_rfl) (fun _ _ _ h => h) (YieldsM.of_if (Or.inl ⟨by rfl, ?hg13z0⟩)) ?rg13z0
    case hg13z0 => ((intro wz hSw; (try dsimp only at hSw); go_simp); try (with_reducible rfl))
    try simp only [Act.put, List.setIfInBounds_toArray, List.set_cons_zero, List.set_cons_succ]
    refine wpAnyM_take (i := 2) (oi := { dst := Option.some 29, op := Op.move (Operand.tmp 1), type := 3, pos := "ref.go:75", after := #[], guard := Option.none }) (v := ?vg14z2) rfl (by kernel_rfl) (by kernel_rfl) (by kernel_rfl) (fun _ _ _ h => h) (YieldsM.of_if (Or.inl ⟨by rfl, ?hg14z2⟩)) ?rg14z2
    case hg14z2 => ((intro wz hSw; (try dsimp only at hSw); go_simp); try (with_reducible rfl))
    try simp only [Act.put, List.setIfInBounds_toArray, List.set_cons_zero, List.set_cons_succ]
    refine wpAnyM_take (i := 4) (oi := { dst := Option.some 31, op := Op.load 42 (Operand.tmp 6), type := 42, pos := "ref.go:75", after := #[{ on := 5, ground := Ground.gcOnly Departure.lateStores }], guard := Option.none }) (v := ?vg15z4) rfl (by kernel_rfl) (by kernel_rfl) (by kernel_rfl) (fun _ _ _ h => h) (YieldsM.of_if (Or.inl ⟨by rfl, ?hg15z4⟩)) ?rg15z4
    case hg15z4 => ((intro wz hSw; (try dsimp only at hSw); go_simp); try (with_reducible rfl))
    try simp only [Act.put, List.setIfInBounds_toArray, List.set_cons_zero, List.set_cons_succ]
    have F1 : Hid (∀ wx, Below w4.drew.heap.size w4.drew wx → wx.heap[q]? = some (.cells #[.int .i64 E.1, .slice lo E.2.length lc] 42) ∧ HasPlaces wx (.slice lo E.2.length lc) E.2 ∧ wx.heap[z]? = some (.cells #[.slice no h.node.length nc, .slice uo h.upF.length uc, .slice ul h.up.length ulc, .slice wo h.dnF.length wc, .slice dl h.dn.length dlc] 25) ∧ wx.heap[z + 1]? = some (.cells #[.int .i64 0, .slice none 0 0] 42) ∧ HasH wx ⟨no, uo, ul, wo, dl, nc, uc, ulc, wc, dlc⟩ h ∧ Below w.heap.size w wx) := fun wx hx => by
      obtain ⟨g1, g2, g3⟩ := H2.out wx (btrH' HB4.out (btrH' (Below.refl _ _).drew hx))
      obtain ⟨a1, a2, a3, a4⟩ := HQ.out wx g3
      exact ⟨g1, g2, a1, a2, a3, a4⟩
    refine readyM (i := 1) (o := { dst := Option.some 28, op := Op.call { callee := Callee.value (Operand.func 26), args := #[Operand.tmp 27], argTypes := #[25] }, type := 25, pos := "ref.go:75", after := #[{ on := 0, ground := Ground.data }], guard := Option.none }) rfl (by kernel_rfl) ?_
    intro u0 hg0 hS0 K hK
    have hf0 := F1.out u0 hg0
    clear hS0
    go_simp
    refine (HTU.out u0 hf0.2.2.2.2.1).mono ?_
    rintro e u1' ⟨tv, rfl, hth, hb0⟩
    have F1' : Hid (∀ wx, Below u1'.heap.size u1' wx → (wx.heap[q]? = some (.cells #[.int .i64 E.1, .slice lo E.2.length lc] 42) ∧ HasPlaces wx (.slice lo E.2.length lc) E.2 ∧ wx.heap[z]? = some (.cells #[.slice no h.node.length nc, .slice uo h.upF.length uc, .slice ul h.up.length ulc, .slice wo h.dnF.length wc, .slice dl h.dn.length dlc] 25) ∧ wx.heap[z + 1]? = some (.cells #[.int .i64 0, .slice none 0 0] 42) ∧ HasH wx ⟨no, uo, ul, wo, dl, nc, uc, ulc, wc, dlc⟩ h ∧ Below w.heap.size w wx) ∧ HasH wx tv (turnH h)) := fun wx hx => ⟨F1.out wx (btrH' hg0 (btrH' hb0 hx)), hth.keep hx⟩
    go_wp2_with fail
    refine hK.out _ _ (HSS.out _ (by have g := (F1'.out u1' (Below.refl _ _)).1; exact ⟨g.2.2.1, g.1⟩)) ?_
    clear hK K hth hb0 hg0 hf0
    try simp only [Act.put, List.setIfInBounds_toArray, List.set_cons_zero, List.set_cons_succ]
    refine readyM (i := 3) (o := { dst := Option.some 30, op := Op.call { callee := Callee.value (Operand.func 25), args := #[Operand.tmp 28, Operand.tmp 29], argTypes := #[25, 3] }, type := 39, pos := "ref.go:75", after := #[{ on := 1, ground := Ground.data }, { on := 2, ground := Ground.data }, { on := 1, ground := Ground.chain }], guard := Option.none }) rfl (by kernel_rfl) ?_
    intro u1 hg1 hS1 K hK
    have hf := F1'.out u1 hg1
    clear hS1
    go_simp
    refine (HUS.out tv u1 hf.2).mono ?_
    rintro e u2 ⟨mo, mc, X, hX0, rfl, ho, hb2⟩
    have HX0 : Hid (X = dnL h s') := hX0
    clear hX0
    go_wp2_with fail
    have HAN : Hid (Ans h (s' : Int) (dnL h) X E) := Or.inr ⟨HNR.out, by rw [HX0.out]; rfl, HE0.out⟩
    have F2 : Hid (∀ wx, Below u2.heap.size u2 wx → (wx.heap[q]? = some (.cells #[.int .i64 E.1, .slice lo E.2.length lc] 42) ∧ HasPlaces wx (.slice lo E.2.length lc) E.2 ∧ wx.heap[z]? = some (.cells #[.slice no h.node.length nc, .slice uo h.upF.length uc, .slice ul h.up.length ulc, .slice wo h.dnF.length wc, .slice dl h.dn.length dlc] 25) ∧ wx.heap[z + 1]? = some (.cells #[.int .i64 0, .slice none 0 0] 42) ∧ HasH wx ⟨no, uo, ul, wo, dl, nc, uc, ulc, wc, dlc⟩ h ∧ Below w.heap.size w wx) ∧ wx.ownsRow w.heap.size 49 3 (.slice mo X.length mc) X.length (snv X) ∧ ∀ g, (Value.slice mo X.length mc).ownBlock = some g → g ≠ z + 1) := fun wx hx => by
      have gg := F1'.out u2 (btrH' hg1 hb2)
      have hz1 : z + 1 < u1.heap.size := some_lt (F1'.out u1 hg1).1.2.2.2.1
      have hwu : w.heap.size ≤ u1.heap.size := Below.size (F1'.out u1 hg1).1.2.2.2.2.2
      refine ⟨(F1'.out wx (btrH' hg1 (btrH' hb2 hx))).1, own_upO (own_lowO ho hwu) hx, fun g hg e => ?_⟩
      have := ho.lt g hg
      omega
    refine hK.out _ _ (HSS.out _ (by have g := (F1'.out u2 (btrH' hg1 hb2)).1; exact ⟨g.2.2.1, g.1⟩)) ?_
    clear hK K
    clear ho hb2 hg1 hf F1 F1'
    try simp only [Act.put, List.setIfInBounds_toArray, List.set_cons_zero, List.set_cons_succ]
    refine wpAnyM_take (i := 5) (oi := { dst := Option.some 4, op := Op.assign (Operand.tmp 30), type := 39, pos := "ref.go:75", after := #[{ on := 3, ground := Ground.data }, { on := 3, ground := Ground.chain }, { on := 0, ground := Ground.phase }, { on := 1, ground := Ground.phase }, { on := 2, ground := Ground.phase }, { on := 3, ground := Ground.phase }, { on := 4, ground := Ground.textOnly Departure.lateStores }], guard := Option.none }) (v := ?vh16z5) rfl (by kernel_rfl) (by kernel_rfl) (by kernel_rfl) (fun _ _ _ h => h) (YieldsM.of_if (Or.inl ⟨by rfl, ?hh16z5⟩)) ?rh16z5
    case hh16z5 => ((intro wz hSw; (try dsimp only at hSw); go_simp); try (with_reducible rfl))
    try simp only [Act.put, List.setIfInBounds_toArray, List.set_cons_zero, List.set_cons_succ]
    refine readyM (i := 6) (o := { dst := Option.none, op := Op.store 42 (Operand.tmp 5) (Operand.tmp 31), type := 0, pos := "ref.go:75", after := #[{ on := 4, ground := Ground.data }, { on := 5, ground := Ground.chain }, { on := 0, ground := Ground.phase }, { on := 1, ground := Ground.phase }, { on := 2, ground := Ground.phase }, { on := 3, ground := Ground.phase }, { on := 4, ground := Ground.phase }, { on := 5, ground := Ground.phase }], guard := Option.none }) rfl (by kernel_rfl) ?_
    intro u3 hg3 hS3 K hK
    obtain ⟨⟨g1, g2, g3, g4, _, g5⟩, g6⟩ := F2.out u3 hg3
    obtain ⟨d0, d1, f0, f1⟩ := cell_two g4
    have HT : Hid (((u3.setCell ⟨z + 1, 0, none⟩ (.int .i64 E.1)).setCell ⟨z + 1, 1, none⟩ (.slice lo E.2.length lc)).heap[z + 1]? = some (.cells #[.int .i64 E.1, .slice lo E.2.length lc] 42) ∧ (((u3.setCell ⟨z + 1, 0, none⟩ (.int .i64 E.1)).setCell ⟨z + 1, 1, none⟩ (.slice lo E.2.length lc)).heap[z]? = some (.cells #[.slice no h.node.length nc, .slice uo h.upF.length uc, .slice ul h.up.length ulc, .slice wo h.dnF.length wc, .slice dl h.dn.length dlc] 25) ∧ ((u3.setCell ⟨z + 1, 0, none⟩ (.int .i64 E.1)).setCell ⟨z + 1, 1, none⟩ (.slice lo E.2.length lc)).heap[q]? = some (.cells #[.int .i64 E.1, .slice lo E.2.length lc] 42)) ∧ HasPlaces ((u3.setCell ⟨z + 1, 0, none⟩ (.int .i64 E.1)).setCell ⟨z + 1, 1, none⟩ (.slice lo E.2.length lc)) (.slice lo E.2.length lc) E.2 ∧ Below w.heap.size w ((u3.setCell ⟨z + 1, 0, none⟩ (.int .i64 E.1)).setCell ⟨z + 1, 1, none⟩ (.slice lo E.2.length lc)) ∧ ((u3.setCell ⟨z + 1, 0, none⟩ (.int .i64 E.1)).setCell ⟨z + 1, 1, none⟩ (.slice lo E.2.length lc)).ownsRow w.heap.size 49 3 (.slice mo X.length mc) X.length (snv X)) := ⟨set_err g4 _ _, ⟨(Below.heap_setCell _ _ _ _ (by show z ≠ z + 1; omega)).trans ((Below.heap_setCell _ _ _ _ (by show z ≠ z + 1; omega)).trans g3), (Below.heap_setCell _ _ _ _ (by exact (HZQ.out q HQ0.out.1).1)).trans ((Below.heap_setCell _ _ _ _ (by exact (HZQ.out q HQ0.out.1).1)).trans g1)⟩, pl_sets (F := E) g4 g2 _ _, HSZ.out _ _ _ g5, own_far (own_far g6.1 (fun g hg => g6.2 g hg)) (fun g hg => g6.2 g hg)⟩
    clear hS3 g1 g2 g3 g4 g5 g6 hg3
    go_simp
    refine hK.out _ _ (HSS.out _ HT.out.2.1) ?_
    clear hK K d0 d1 f0 f1
    try simp only [Act.put, List.setIfInBounds_toArray, List.set_cons_zero, List.set_cons_succ]
    generalize ((u3.setCell ⟨z + 1, 0, none⟩ (.int .i64 E.1)).setCell ⟨z + 1, 1, none⟩ (.slice lo E.2.length lc)) = U4 at HT ⊢
    refine wpAnyM_done (by kernel_rfl) ?_ _
    intro u9 hg9 hS9
    have H9 : Hid (u9.heap[z + 1]? = some (.cells #[.int .i64 E.1, .slice lo E.2.length lc] 42) ∧ HasPlaces u9 (.slice lo E.2.length lc) E.2 ∧ Below w.heap.size w u9 ∧ u9.ownsRow w.heap.size 49 3 (.slice mo X.length mc) X.length (snv X)) := ⟨(Below.block hg9 _ (some_lt HT.out.1)).trans HT.out.1, HT.out.2.2.1.keep hg9, HT.out.2.2.2.1.trans (hg9.mono HT.out.2.2.2.1.size), own_upO HT.out.2.2.2.2 hg9⟩
    clear hS9 hg9 HT
    go_wp2
    exact bodyPost_ret (docDown_res H9.out.1 rfl rfl) rfl ⟨X, E, HAN.out, mo, mc, lo, lc, rfl, H9.out.2.2.2, H9.out.2.1, H9.out.2.2.1⟩
  · have j1 : decide (E = (0, [])) = false := by simpa using hc
    have HRF : Hid (Ans h s (dnL h) [] E) := Or.inl ⟨Or.inl (by rw [HE.out]; exact hc), rfl, by rw [cErr_chk (by rw [HE.out]; exact hc), HE.out]⟩
    go_wp2_with fail
    refine (Hi.bad_calls E.1 lo E.2.length lc w3).mono ?_
    rintro e w4 ⟨rfl, hb⟩
    rw [bad_iff]
    have HB4 : Hid (Below W2.heap.size W2 w4) := btrH' HB3.out hb
    clear hb q0 q1 f0 f1 c0 c1 c2 c3 c4 hc
    have HF4 : Hid (∀ wx, Below w4.heap.size w4 wx → wx.heap[q]? = some (.cells #[.int .i64 E.1, .slice lo E.2.length lc] 42) ∧ HasPlaces wx (.slice lo E.2.length lc) E.2 ∧ wx.heap[z]? = some (.cells #[.slice no h.node.length nc, .slice uo h.upF.length uc, .slice ul h.up.length ulc, .slice wo h.dnF.length wc, .slice dl h.dn.length dlc] 25) ∧ wx.heap[z + 1]? = some (.cells #[.int .i64 0, .slice none 0 0] 42) ∧ Below w.heap.size w wx) := fun wx hx => by
      obtain ⟨g1, g2, g3⟩ := H2.out wx (btrH' HB4.out hx)
      obtain ⟨a1, a2, _, a4⟩ := HQ.out wx g3
      exact ⟨g1, g2, a1, a2, a4⟩
    obtain ⟨q0, q1, _, _⟩ := cell_two (HF4.out w4 (Below.refl _ _)).1
    go_wp2_with fail
    have HSS : Hid (∀ wx : World, (wx.heap[z]? = some (.cells #[.slice no h.node.length nc, .slice uo h.upF.length uc, .slice ul h.up.length ulc, .slice wo h.dnF.length wc, .slice dl h.dn.length dlc] 25) ∧ wx.heap[q]? = some (.cells #[.int .i64 E.1, .slice lo E.2.length lc] 42)) → (fun w' => w'.cell? ⟨z, 0, none⟩ = some (.slice no h.node.length nc) ∧ w'.cell? ⟨z, 1, none⟩ = some (.slice uo h.upF.length uc) ∧ w'.cell? ⟨z, 2, none⟩ = some (.slice ul h.up.length ulc) ∧ w'.cell? ⟨z, 3, none⟩ = some (.slice wo h.dnF.length wc) ∧ w'.cell? ⟨z, 4, none⟩ = some (.slice dl h.dn.length dlc) ∧ w'.cell? ⟨q, 0, none⟩ = some (.int .i64 E.1) ∧ w'.cell? ⟨q, 1, none⟩ = some (.slice lo E.2.length lc) ∧ Hid (w'.heap[z]? = some (.cells #[.slice no h.node.length nc, .slice uo h.upF.length uc, .slice ul h.up.length ulc, .slice wo h.dnF.length wc, .slice dl h.dn.length dlc] 25) ∧ w'.heap[q]? = some (.cells #[.int .i64 E.1, .slice lo E.2.length lc] 42))) wx) := fun wx hx => by
      obtain ⟨a0, a1, a2, a3, a4⟩ := five_cells hx.1
      obtain ⟨b0, b1, _, _⟩ := cell_two hx.2
      exact ⟨a0, a1, a2, a3, a4, b0, b1, hx⟩
    clear q0 q1
    refine wp_region_M (S := (fun w' => w'.cell? ⟨z, 0, none⟩ = some (.slice no h.node.length nc) ∧ w'.cell? ⟨z, 1, none⟩ = some (.slice uo h.upF.length uc) ∧ w'.cell? ⟨z, 2, none⟩ = some (.slice ul h.up.length ulc) ∧ w'.cell? ⟨z, 3, none⟩ = some (.slice wo h.dnF.length wc) ∧ w'.cell? ⟨z, 4, none⟩ = some (.slice dl h.dn.length dlc) ∧ w'.cell? ⟨q, 0, none⟩ = some (.int .i64 E.1) ∧ w'.cell? ⟨q, 1, none⟩ = some (.slice lo E.2.length lc) ∧ Hid (w'.heap[z]? = some (.cells #[.slice no h.node.length nc, .slice uo h.upF.length uc, .slice ul h.up.length ulc, .slice wo h.dnF.length wc, .slice dl h.dn.length dlc] 25) ∧ w'.heap[q]? = some (.cells #[.int .i64 E.1, .slice lo E.2.length lc] 42)))) (by kernel_rfl) (HSS.out _ ⟨(HF4.out _ (Below.refl _ _).drew).2.2.1, (HF4.out _ (Below.refl _ _).drew).1⟩) ?_
    refine wpAnyM_take (i := 0) (oi := { dst := Option.some 26, op := Op.load 42 (Operand.tmp 6), type := 42, pos := "ref.go:73", after := #[{ on := 1, ground := Ground.gcOnly Departure.lateStores }], guard := Option.none }) (v := ?ve9z0) rfl (by kernel_rfl) (by kernel_rfl) (by kernel_rfl) (fun _ _ _ h => h) (YieldsM.of_if (Or.inl ⟨by rfl, ?he9z0⟩)) ?re9z0
    case he9z0 => ((intro wz hSw; (try dsimp only at hSw); go_simp); try (with_reducible rfl))
    try simp only [Act.put, List.setIfInBounds_toArray, List.set_cons_zero, List.set_cons_succ]
    refine wpAnyM_take (i := 1) (oi := { dst := Option.some 4, op := Op.assign (Operand.const (Value.slice Option.none 0 0)), type := 39, pos := "ref.go:73", after := #[{ on := 0, ground := Ground.textOnly Departure.lateStores }], guard := Option.none }) (v := ?ve10z1) rfl (by kernel_rfl) (by kernel_rfl) (by kernel_rfl) (fun _ _ _ h => h) (YieldsM.of_if (Or.inl ⟨by rfl, ?he10z1⟩)) ?re10z1
    case he10z1 => ((intro wz hSw; (try dsimp only at hSw); go_simp); try (with_reducible rfl))
    try simp only [Act.put, List.setIfInBounds_toArray, List.set_cons_zero, List.set_cons_succ]
    refine readyM (i := 2) (o := { dst := Option.none, op := Op.store 42 (Operand.tmp 5) (Operand.tmp 26), type := 0, pos := "ref.go:73", after := #[{ on := 0, ground := Ground.data }, { on := 1, ground := Ground.chain }, { on := 0, ground := Ground.phase }, { on := 1, ground := Ground.phase }], guard := Option.none }) rfl (by kernel_rfl) ?_
    intro u1 hg1 hS1 K hK
    obtain ⟨g1, g2, g3, g4, g5⟩ := HF4.out u1 (btrH' (Below.refl _ _).drew hg1)
    obtain ⟨d0, d1, f0, f1⟩ := cell_two g4
    have HT : Hid (((u1.setCell ⟨z + 1, 0, none⟩ (.int .i64 E.1)).setCell ⟨z + 1, 1, none⟩ (.slice lo E.2.length lc)).heap[z + 1]? = some (.cells #[.int .i64 E.1, .slice lo E.2.length lc] 42) ∧ (((u1.setCell ⟨z + 1, 0, none⟩ (.int .i64 E.1)).setCell ⟨z + 1, 1, none⟩ (.slice lo E.2.length lc)).heap[z]? = some (.cells #[.slice no h.node.length nc, .slice uo h.upF.length uc, .slice ul h.up.length ulc, .slice wo h.dnF.length wc, .slice dl h.dn.length dlc] 25) ∧ ((u1.setCell ⟨z + 1, 0, none⟩ (.int .i64 E.1)).setCell ⟨z + 1, 1, none⟩ (.slice lo E.2.length lc)).heap[q]? = some (.cells #[.int .i64 E.1, .slice lo E.2.length lc] 42)) ∧ HasPlaces ((u1.setCell ⟨z + 1, 0, none⟩ (.int .i64 E.1)).setCell ⟨z + 1, 1, none⟩ (.slice lo E.2.length lc)) (.slice lo E.2.length lc) E.2 ∧ Below w.heap.size w ((u1.setCell ⟨z + 1, 0, none⟩ (.int .i64 E.1)).setCell ⟨z + 1, 1, none⟩ (.slice lo E.2.length lc))) := ⟨set_err g4 _ _, ⟨(Below.heap_setCell _ _ _ _ (by show z ≠ z + 1; omega)).trans ((Below.heap_setCell _ _ _ _ (by show z ≠ z + 1; omega)).trans g3), (Below.heap_setCell _ _ _ _ (by exact (HZQ.out q HQ0.out.1).1)).trans ((Below.heap_setCell _ _ _ _ (by exact (HZQ.out q HQ0.out.1).1)).trans g1)⟩, pl_sets (F := E) g4 g2 _ _, HSZ.out _ _ _ g5⟩
    clear hS1 g1 g2 g3 g4 g5 hg1
    go_simp
    refine hK.out _ _ (HSS.out _ HT.out.2.1) ?_
    clear hK K d0 d1 f0 f1
    try simp only [Act.put, List.setIfInBounds_toArray, List.set_cons_zero, List.set_cons_succ]
    generalize ((u1.setCell ⟨z + 1, 0, none⟩ (.int .i64 E.1)).setCell ⟨z + 1, 1, none⟩ (.slice lo E.2.length lc)) = U2 at HT ⊢
    refine wpAnyM_done (by kernel_rfl) ?_ _
    intro u9 hg9 hS9
    have H9 : Hid (u9.heap[z + 1]? = some (.cells #[.int .i64 E.1, .slice lo E.2.length lc] 42) ∧ HasPlaces u9 (.slice lo E.2.length lc) E.2 ∧ Below w.heap.size w u9) := ⟨(Below.block hg9 _ (some_lt HT.out.1)).trans HT.out.1, HT.out.2.2.1.keep hg9, HT.out.2.2.2.trans (hg9.mono HT.out.2.2.2.size)⟩
    clear hS9 hg9 HT
    go_wp2
    exact bodyPost_ret (docDown_res H9.out.1 rfl rfl) rfl ⟨[], E, HRF.out, none, 0, lo, lc, rfl, World.ownsRow_nil _ _ _ _, H9.out.2.1, H9.out.2.2⟩

theorem docDown_calls (v : HV) (h : Hr) (s : Int) (w : World) (hH : HasH w v h) (hb1 : h.up.length ≤ 1152921504606846976) (hb2 : h.dn.length ≤ 1152921504606846976) (hb3 : h.node.length ≤ 1152921504606846976) :
    Calls Try.prog 11 #[hvl v h, .int .i64 s] w fun e w' => UA h s (dnL h) w e w' :=
  docDown_aux v.no v.uo v.ul v.wo v.dl v.nc v.uc v.ulc v.wc v.dlc h s w hH hb1 hb2 hb3
theorem up_any (v : HV) (h : Hr) (s : Int) (w : World) (hH : HasH w v h) (hb1 : h.up.length ≤ 1152921504606846976) (hb2 : h.dn.length ≤ 1152921504606846976) (hb3 : h.node.length ≤ 1152921504606846976) :
    Calls Try.prog 7 #[hvl v h, .int .i64 s] w fun e w' => ∃ (mo : Option Addr) (mc : Nat) (X : List (Nat × Int × Bool)) (E : Int × List (Int × Int)) (u : Value), Ans h s (upL h) X E ∧ e = .returned (.tuple #[.slice mo X.length mc, u]) ∧ w'.ownsRow w.heap.size 38 3 (.slice mo X.length mc) X.length (snv X) ∧ IsTold w' E u ∧ Below w.heap.size w w' := by
  by_cases hr : Refuses h s
  · refine (up_bad v h s w hH hb1 hb2 hb3 hr).mono ?_
    rintro e w' ⟨T, x, rfl, ht, hb⟩
    exact ⟨none, 0, [], cErr h, _, Or.inl ⟨hr, rfl, rfl⟩, rfl, World.ownsRow_nil _ _ _ _, ht, hb⟩
  · have hc : chk h = (0, []) := by
      by_cases g : chk h = (0, [])
      · exact g
      · exact absurd (Or.inl g) hr
    have hs1 : ¬ s < 0 := fun g => hr (Or.inr (Or.inl g))
    have hs2 : ¬ (h.node.length : Int) ≤ s := fun g => hr (Or.inr (Or.inr g))
    obtain ⟨s', rfl⟩ : ∃ s' : Nat, s = (s' : Int) := ⟨s.toNat, by omega⟩
    refine (up_ok v h s' w hH hc (by omega)).mono ?_
    rintro e w' ⟨mo, mc, X, hX, rfl, ho, hb⟩
    exact ⟨mo, mc, X, (0, []), _, Or.inr ⟨hr, by rw [hX]; rfl, rfl⟩, rfl, ho, Or.inl ⟨rfl, rfl⟩, hb⟩
theorem down_any (v : HV) (h : Hr) (s : Int) (w : World) (hH : HasH w v h) (hb1 : h.up.length ≤ 1152921504606846976) (hb2 : h.dn.length ≤ 1152921504606846976) (hb3 : h.node.length ≤ 1152921504606846976) :
    Calls Try.prog 8 #[hvl v h, .int .i64 s] w fun e w' => ∃ (mo : Option Addr) (mc : Nat) (X : List (Nat × Int × Bool)) (E : Int × List (Int × Int)) (u : Value), Ans h s (dnL h) X E ∧ e = .returned (.tuple #[.slice mo X.length mc, u]) ∧ w'.ownsRow w.heap.size 38 3 (.slice mo X.length mc) X.length (snv X) ∧ IsTold w' E u ∧ Below w.heap.size w w' := by
  by_cases hr : Refuses h s
  · refine (down_bad v h s w hH hb1 hb2 hb3 hr).mono ?_
    rintro e w' ⟨T, x, rfl, ht, hb⟩
    exact ⟨none, 0, [], cErr h, _, Or.inl ⟨hr, rfl, rfl⟩, rfl, World.ownsRow_nil _ _ _ _, ht, hb⟩
  · have hc : chk h = (0, []) := by
      by_cases g : chk h = (0, [])
      · exact g
      · exact absurd (Or.inl g) hr
    have hs1 : ¬ s < 0 := fun g => hr (Or.inr (Or.inl g))
    have hs2 : ¬ (h.node.length : Int) ≤ s := fun g => hr (Or.inr (Or.inr g))
    obtain ⟨s', rfl⟩ : ∃ s' : Nat, s = (s' : Int) := ⟨s.toNat, by omega⟩
    refine (down_ok v h s' w hH hc (by omega)).mono ?_
    rintro e w' ⟨mo, mc, X, hX, rfl, ho, hb⟩
    exact ⟨mo, mc, X, (0, []), _, Or.inr ⟨hr, by rw [hX]; rfl, rfl⟩, rfl, ho, Or.inl ⟨rfl, rfl⟩, hb⟩
end Go.Proofs.Ytlehlghagddogaa.Cb
