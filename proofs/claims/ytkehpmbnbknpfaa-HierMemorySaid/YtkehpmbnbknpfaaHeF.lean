/- viaductref10.DocGraph at every hierarchy; hier.Graph told the same way. (genif.py) -/
import Derived.Test.YtkehpmbnbknpfaaHeE
import Derived.Test.YtkehpmbnbknpfaaHeX
namespace Go.Proofs.Ytkehpmbnbknpfaa.Hi
open Go.RowKit Go.Extern Go.Shelf

attribute [local go_sem] Oper.semAt_some

/-- what Graph answers. -/
def GAns (h : Hr) (N : Int) (L : List (Int × Int × Int)) : Prop := (chk h = (0, []) ∧ N = (h.node.length : Int) ∧ L = sortE (gArcs h (stds h))) ∨ (chk h ≠ (0, []) ∧ N = 0 ∧ L = [])
theorem GAns.one {h : Hr} {N M : Int} {L K : List (Int × Int × Int)} (a : GAns h N L) (b : GAns h M K) : N = M ∧ L = K := by
  rcases a with ⟨a1, rfl, rfl⟩ | ⟨a1, rfl, rfl⟩ <;> rcases b with ⟨b1, rfl, rfl⟩ | ⟨b1, rfl, rfl⟩
  · exact ⟨rfl, rfl⟩
  · exact absurd a1 b1
  · exact absurd b1 a1
  · exact ⟨rfl, rfl⟩
theorem graph_any (v : HV) (h : Hr) (w : World) (hH : HasH w v h) (hb1 : h.up.length ≤ 1152921504606846976) (hb2 : h.dn.length ≤ 1152921504606846976) (hb3 : h.node.length ≤ 1152921504606846976) :
    Calls Try.prog 8 #[hvl v h] w fun e w' => ∃ N L lo c g, GAns h N L ∧ e = .returned (.tuple #[.agg #[.int .i64 N, .slice lo L.length c], g]) ∧ HasArcs w' (.slice lo L.length c) L ∧ IsTold w' (chk h) g ∧ Below w.heap.size w w' := by
  refine (graph_calls v h w hH hb1 hb2 hb3).mono ?_
  rintro e w' ⟨N, lo, k, c, u, L, rfl, hb, ha, hu⟩
  have hk : k = L.length := by obtain ⟨ao, cap, e, _⟩ := ha; injection e
  subst hk
  rcases hu with ⟨hc, rfl, rfl, rfl⟩ | ⟨hc, rfl, rfl, ht⟩
  · exact ⟨_, _, lo, c, _, Or.inl ⟨hc, rfl, rfl⟩, rfl, ha, Or.inl ⟨hc, rfl⟩, hb⟩
  · exact ⟨_, _, lo, c, _, Or.inr ⟨hc, rfl, rfl⟩, rfl, ha, ht, hb⟩
/-- what DocGraph answers. -/
def DG (h : Hr) (w : World) (e : Ending) (w' : World) : Prop := ∃ N L lo c eo ec, GAns h N L ∧ e = .returned (.tuple #[.agg #[.int .i64 N, .slice lo L.length c], .agg #[.int .i64 (chk h).1, .slice eo (chk h).2.length ec]]) ∧ HasArcs w' (.slice lo L.length c) L ∧ HasPlaces w' (.slice eo (chk h).2.length ec) (chk h).2 ∧ Below w.heap.size w w'
theorem docGraph_res {W : World} {z y : Nat} {x0 x1 y0 y1 : Value} {tmps : Array Value} (h1 : W.heap[z]? = some (.cells #[x0, x1] 35)) (h2 : W.heap[y]? = some (.cells #[y0, y1] 52)) (t2 : tmps[2]?.getD undef = .pointer (some ⟨z, 0, none⟩)) (t3 : tmps[3]?.getD undef = .pointer (some ⟨y, 0, none⟩)) :
    (results Try.f13 tmps).run Try.prog W = .ok (.tuple #[.agg #[x0, x1], .agg #[y0, y1]]) W := by
  obtain ⟨c0, c1, _, _⟩ := cell_two h1
  obtain ⟨d0, d1, _, _⟩ := cell_two h2
  simp [results, Try.results13, go_sem, t2, t3, c0, c1, d0, d1]

set_option maxRecDepth 100000 in
set_option maxHeartbeats 8000000 in
theorem docGraph_aux (no uo ul wo dl : Option Addr) (nc uc ulc wc dlc : Nat) (h : Hr) (w : World) (hH : HasH w ⟨no, uo, ul, wo, dl, nc, uc, ulc, wc, dlc⟩ h) (hb1 : h.up.length ≤ 1152921504606846976) (hb2 : h.dn.length ≤ 1152921504606846976) (hb3 : h.node.length ≤ 1152921504606846976) (hm : chk h = (0, []) → (stds h).length ≤ 262144) :
    Calls Try.prog 13 #[hvl ⟨no, uo, ul, wo, dl, nc, uc, ulc, wc, dlc⟩ h] w fun e w' => DG h w e w' := by
  obtain ⟨z, hz⟩ : ∃ z, w.heap.size = z := ⟨_, rfl⟩
  obtain ⟨W0, hW0⟩ : ∃ W0, ((w.alloc (.cells #[.slice no h.node.length nc, .slice uo h.upF.length uc, .slice ul h.up.length ulc, .slice wo h.dnF.length wc, .slice dl h.dn.length dlc] 25)).alloc (.cells #[.int .i64 0, .slice none 0 0] 35)).alloc (.cells #[.int .i64 0, .slice none 0 0] 52) = W0 := ⟨_, rfl⟩
  have hB0 : Below w.heap.size w W0 := by rw [← hW0]; exact (((Below.refl _ w).alloc (Nat.le_refl _) _).alloc (by simp) _).alloc (by simp; omega) _
  have h0 : W0.heap[z]? = some (.cells #[.slice no h.node.length nc, .slice uo h.upF.length uc, .slice ul h.up.length ulc, .slice wo h.dnF.length wc, .slice dl h.dn.length dlc] 25) := by
    rw [← hW0, ← hz]; exact (Below.heap_alloc _ _ _ (by simp; omega)).trans ((Below.heap_alloc _ _ _ (by simp)).trans (heap_newW _ _))
  have hrz : W0.heap[z + 1]? = some (.cells #[.int .i64 0, .slice none 0 0] 35) := by
    have g := heap_newW (w.alloc (.cells #[.slice no h.node.length nc, .slice uo h.upF.length uc, .slice ul h.up.length ulc, .slice wo h.dnF.length wc, .slice dl h.dn.length dlc] 25)) (.cells #[.int .i64 0, .slice none 0 0] 35)
    rw [World.size_alloc, hz] at g
    rw [← hW0]
    exact (Below.heap_alloc _ _ _ (by rw [World.size_alloc, World.size_alloc, hz]; omega)).trans g
  have h1 : W0.heap[z + 2]? = some (.cells #[.int .i64 0, .slice none 0 0] 52) := by
    have g := heap_newW ((w.alloc (.cells #[.slice no h.node.length nc, .slice uo h.upF.length uc, .slice ul h.up.length ulc, .slice wo h.dnF.length wc, .slice dl h.dn.length dlc] 25)).alloc (.cells #[.int .i64 0, .slice none 0 0] 35)) (.cells #[.int .i64 0, .slice none 0 0] 52)
    rw [World.size_alloc, World.size_alloc, hW0, hz] at g
    exact g
  have HS0 : Hid (z + 2 < W0.heap.size) := some_lt h1
  have HQ : Hid (∀ wx, Below W0.heap.size W0 wx → wx.heap[z]? = some (.cells #[.slice no h.node.length nc, .slice uo h.upF.length uc, .slice ul h.up.length ulc, .slice wo h.dnF.length wc, .slice dl h.dn.length dlc] 25) ∧ wx.heap[z + 2]? = some (.cells #[.int .i64 0, .slice none 0 0] 52) ∧ HasH wx ⟨no, uo, ul, wo, dl, nc, uc, ulc, wc, dlc⟩ h ∧ Below w.heap.size w wx ∧ wx.heap[z + 1]? = some (.cells #[.int .i64 0, .slice none 0 0] 35)) := fun wx hx => by
    have g := hB0.trans (hx.mono hB0.size)
    exact ⟨(hx.block _ (some_lt h0)).trans h0, (hx.block _ (some_lt h1)).trans h1, hH.keep g, g, (hx.block _ (some_lt hrz)).trans hrz⟩
  have HSZ : Hid (∀ (wx : World) (x y : Value), Below w.heap.size w wx → Below w.heap.size w ((wx.setCell ⟨z + 2, 0, none⟩ x).setCell ⟨z + 2, 1, none⟩ y)) := fun wx x y hx => (hx.setCell (p := ⟨z + 2, 0, none⟩) (by show w.heap.size ≤ z + 2; omega) _).setCell (p := ⟨z + 2, 1, none⟩) (by show w.heap.size ≤ z + 2; omega) _
  have HW0 : Hid (((w.alloc (.cells #[.slice no h.node.length nc, .slice uo h.upF.length uc, .slice ul h.up.length ulc, .slice wo h.dnF.length wc, .slice dl h.dn.length dlc] 25)).alloc (.cells #[.int .i64 0, .slice none 0 0] 35)).alloc (.cells #[.int .i64 0, .slice none 0 0] 52) = W0) := hW0
  have HZZ : Hid (w.heap.size = z) := hz
  have HB0 : Hid (Below W0.heap.size W0 W0) := Below.refl _ _
  have HDC : Hid (∀ wx, Below W0.heap.size W0 wx → Calls Try.prog 38 #[hvl ⟨no, uo, ul, wo, dl, nc, uc, ulc, wc, dlc⟩ h] wx fun e w' => RA wx (chk h) e w') := fun wx hx => docCheck10_calls _ h wx (HQ.out wx hx).2.2.1 hb1 hb2 hb3
  have HTU : Hid (chk h = (0, []) → ∀ wx, Below W0.heap.size W0 wx → Calls Try.prog 41 #[hvl ⟨no, uo, ul, wo, dl, nc, uc, ulc, wc, dlc⟩ h] wx fun e w' => ∃ lo lc, e = .returned (.agg #[.int .i64 (h.node.length : Int), .slice lo (normA (gArcs h (stds h))).length lc]) ∧ HasArcs w' (.slice lo (normA (gArcs h (stds h))).length lc) (normA (gArcs h (stds h))) ∧ NewA wx.heap.size (.slice lo (normA (gArcs h (stds h))).length lc) ∧ Below wx.heap.size wx w') := fun hc wx hx => graphR_calls _ h wx (HQ.out wx hx).2.2.1 hc (hm hc)
  clear hW0 h0 h1 hB0 hrz hH
  have eHV : hvl ⟨no, uo, ul, wo, dl, nc, uc, ulc, wc, dlc⟩ h = .agg #[.slice no h.node.length nc, .slice uo h.upF.length uc, .slice ul h.up.length ulc, .slice wo h.dnF.length wc, .slice dl h.dn.length dlc] := rfl
  rw [eHV] at HDC HTU ⊢
  clear eHV hm
  go_enter Try.func13, Try.ntmps13
  go_upto_region 1 with fail
  rw [HW0.out]
  clear HW0 hz
  obtain ⟨c0, c1, c2, c3, c4⟩ := five_cells (HQ.out W0 HB0.out).1
  go_wp2_with fail
  refine (HDC.out W0 HB0.out).mono ?_
  rintro e w1 ⟨lo, lc, rfl, hp, hb⟩
  obtain ⟨E, hE⟩ : ∃ E, chk h = E := ⟨_, rfl⟩
  have HE : Hid (chk h = E) := hE
  rw [hE] at hp ⊢
  obtain ⟨q, hq⟩ : ∃ q, w1.heap.size = q := ⟨_, rfl⟩
  obtain ⟨W2, hW2⟩ : ∃ W2, w1.alloc (.cells #[.int .i64 E.1, .slice lo E.2.length lc] 52) = W2 := ⟨_, rfl⟩
  have HW2 : Hid (w1.alloc (.cells #[.int .i64 E.1, .slice lo E.2.length lc] 52) = W2) := hW2
  have H2 : Hid (∀ wx, Below W2.heap.size W2 wx → wx.heap[q]? = some (.cells #[.int .i64 E.1, .slice lo E.2.length lc] 52) ∧ HasPlaces wx (.slice lo E.2.length lc) E.2 ∧ Below W0.heap.size W0 wx) := fun wx hx => by
    have g1 : W2.heap[q]? = some (.cells #[.int .i64 E.1, .slice lo E.2.length lc] 52) := by rw [← hW2, ← hq]; exact heap_newW _ _
    have g2 : Below w1.heap.size w1 W2 := by rw [← hW2]; exact (Below.refl _ _).alloc (Nat.le_refl _) _
    have g3 := btrH' g2 hx
    exact ⟨(hx.block _ (some_lt g1)).trans g1, hp.keep g3, btrH' hb g3⟩
  have HQ0 : Hid (W0.heap.size ≤ q) := by rw [← hq]; exact hb.size
  clear hp hb hW2 c0 c1 c2 c3 c4 hE
  go_upto_region 2 with fail
  rw [HW2.out]
  clear HW2 hq
  obtain ⟨q0, q1, _, _⟩ := cell_two (H2.out W2 (Below.refl _ _)).1
  go_wp2_with fail
  refine (Hi.bad_calls E.1 lo E.2.length lc W2).mono ?_
  rintro e w3 ⟨rfl, hb⟩
  rw [bad_iff]
  have HB3 : Hid (Below W2.heap.size W2 w3) := hb
  clear hb q0 q1
  by_cases hc : E = (0, [])
  · have j1 : decide (E = (0, [])) = true := by simpa using hc
    have HC : Hid (chk h = (0, [])) := by show _ = _; rw [HE.out]; exact hc
    have HTA0 : GAns h (h.node.length : Int) (normA (gArcs h (stds h))) := Or.inl ⟨HC.out, rfl, graph_norm HC.out⟩
    clear hc
    have HB4 : Hid (Below W0.heap.size W0 w3) := (H2.out w3 HB3.out).2.2
    obtain ⟨c0, c1, c2, c3, c4⟩ := five_cells (HQ.out w3 HB4.out).1
    have HGC0 := HTU.out HC.out w3 HB4.out
    obtain ⟨L, hL⟩ : ∃ L, normA (gArcs h (stds h)) = L := ⟨_, rfl⟩
    rw [hL] at HTA0 HGC0
    have HTA : Hid (GAns h (h.node.length : Int) L) := HTA0
    have HGC : Hid (type_of% HGC0) := HGC0
    clear HGC0 HTA0 hL
    go_wp2_with fail
    refine HGC.out.mono ?_
    rintro e w5 ⟨ao, ac, rfl, ha, hnew, hb⟩
    obtain ⟨_, a2, _, a4, a5⟩ := HQ.out w5 (btrH' HB4.out hb)
    obtain ⟨d0, d1, f0, f1⟩ := cell_two a5
    obtain ⟨W6, hW6⟩ : ∃ W6, ((w5.setCell ⟨z + 1, 0, none⟩ (.int .i64 (h.node.length : Int))).setCell ⟨z + 1, 1, none⟩ (.slice ao L.length ac)) = W6 := ⟨_, rfl⟩
    have e1 : W6.heap[z + 1]? = some (.cells #[.int .i64 (h.node.length : Int), .slice ao L.length ac] 35) := by rw [← hW6]; exact set_err a5 _ _
    have e2 : W6.heap[z + 2]? = some (.cells #[.int .i64 0, .slice none 0 0] 52) := by rw [← hW6]; exact (Below.heap_setCell _ _ _ _ (by show z + 2 ≠ z + 1; omega)).trans ((Below.heap_setCell _ _ _ _ (by show z + 2 ≠ z + 1; omega)).trans a2)
    have e3 : Below w.heap.size w W6 := by rw [← hW6]; exact (a4.setCell (p := ⟨z + 1, 0, none⟩) (by have := HZZ.out; show _ ≤ z + 1; omega) _).setCell (p := ⟨z + 1, 1, none⟩) (by have := HZZ.out; show _ ≤ z + 1; omega) _
    have e4 : HasArcs W6 (.slice ao L.length ac) L := by rw [← hW6]; exact arcs_set2 ha a5 _ _
    have H6 : Hid (((W6.setCell ⟨z + 2, 0, none⟩ (.int .i64 0)).setCell ⟨z + 2, 1, none⟩ (.slice none 0 0)).heap[z + 1]? = some (.cells #[.int .i64 (h.node.length : Int), .slice ao L.length ac] 35) ∧ ((W6.setCell ⟨z + 2, 0, none⟩ (.int .i64 0)).setCell ⟨z + 2, 1, none⟩ (.slice none 0 0)).heap[z + 2]? = some (.cells #[.int .i64 0, .slice none 0 0] 52) ∧ Below w.heap.size w ((W6.setCell ⟨z + 2, 0, none⟩ (.int .i64 0)).setCell ⟨z + 2, 1, none⟩ (.slice none 0 0)) ∧ HasArcs ((W6.setCell ⟨z + 2, 0, none⟩ (.int .i64 0)).setCell ⟨z + 2, 1, none⟩ (.slice none 0 0)) (.slice ao L.length ac) L) := ⟨(Below.heap_setCell _ _ _ _ (by show z + 1 ≠ z + 2; omega)).trans ((Below.heap_setCell _ _ _ _ (by show z + 1 ≠ z + 2; omega)).trans e1), set_err e2 _ _, HSZ.out _ _ _ e3, arcs_set2 e4 e2 _ _⟩
    obtain ⟨k0, k1, g0, g1⟩ := cell_two e2
    rw [← hW6] at k0 k1 g0 g1 H6
    clear ha hnew hb a2 a4 a5 hW6 c0 c1 c2 c3 c4 e1 e2 e3 e4
    go_wp2
    exact bodyPost_ret (docGraph_res H6.out.1 H6.out.2.1 rfl rfl) rfl ⟨_, L, ao, ac, none, 0, HTA.out, by rw [HC.out]; rfl, H6.out.2.2.2, by rw [HC.out]; exact pl_nil _, H6.out.2.2.1⟩
  · have j1 : decide (E = (0, [])) = false := by simpa using hc
    have HTA : Hid (GAns h 0 []) := Or.inr ⟨by rw [HE.out]; exact hc, rfl, rfl⟩
    clear hc
    go_wp2_with fail
    have HSS : Hid (∀ wx : World, wx.heap[q]? = some (.cells #[.int .i64 E.1, .slice lo E.2.length lc] 52) → (fun w' => w'.cell? ⟨q, 0, none⟩ = some (.int .i64 E.1) ∧ w'.cell? ⟨q, 1, none⟩ = some (.slice lo E.2.length lc) ∧ Hid (w'.heap[q]? = some (.cells #[.int .i64 E.1, .slice lo E.2.length lc] 52))) wx) := fun wx hx => by
      obtain ⟨b0, b1, _, _⟩ := cell_two hx
      exact ⟨b0, b1, hx⟩
    have HF : Hid (∀ wx, Below w3.heap.size w3 wx → wx.heap[q]? = some (.cells #[.int .i64 E.1, .slice lo E.2.length lc] 52) ∧ HasPlaces wx (.slice lo E.2.length lc) E.2 ∧ wx.heap[z + 1]? = some (.cells #[.int .i64 0, .slice none 0 0] 35) ∧ wx.heap[z + 2]? = some (.cells #[.int .i64 0, .slice none 0 0] 52) ∧ Below w.heap.size w wx) := fun wx hx => by
      obtain ⟨g1, g2, g3⟩ := H2.out wx (btrH' HB3.out hx)
      obtain ⟨_, a2, _, a4, a5⟩ := HQ.out wx g3
      exact ⟨g1, g2, a5, a2, a4⟩
    have HNE : Hid (q ≠ z + 1 ∧ q ≠ z + 2) := by have := HS0.out; have := HQ0.out; show q ≠ z + 1 ∧ q ≠ z + 2; omega
    refine wp_region_M (S := (fun w' => w'.cell? ⟨q, 0, none⟩ = some (.int .i64 E.1) ∧ w'.cell? ⟨q, 1, none⟩ = some (.slice lo E.2.length lc) ∧ Hid (w'.heap[q]? = some (.cells #[.int .i64 E.1, .slice lo E.2.length lc] 52)))) (by kernel_rfl) (HSS.out _ (HF.out _ (Below.refl _ _).drew).1) ?_
    refine wpAnyM_take (i := 0) (oi := { dst := Option.some 9, op := Op.build 35 #[], type := 35, pos := "ref.go:175", after := #[], guard := Option.none }) (v := ?va1z0) rfl (by kernel_rfl) (by kernel_rfl) (by kernel_rfl) (fun _ _ _ h => h) (YieldsM.of_if (Or.inl ⟨by rfl, ?ha1z0⟩)) ?ra1z0
    case ha1z0 => ((intro wz hSw; (try dsimp only at hSw); go_simp); try (with_reducible rfl))
    try simp only [Act.put, List.setIfInBounds_toArray, List.set_cons_zero, List.set_cons_succ]
    refine wpAnyM_take (i := 1) (oi := { dst := Option.some 10, op := Op.load 52 (Operand.tmp 4), type := 52, pos := "ref.go:175", after := #[{ on := 2, ground := Ground.gcOnly Departure.lateStores }], guard := Option.none }) (v := ?va2z1) rfl (by kernel_rfl) (by kernel_rfl) (by kernel_rfl) (fun _ _ _ h => h) (YieldsM.of_if (Or.inl ⟨by rfl, ?ha2z1⟩)) ?ra2z1
    case ha2z1 => ((intro wz hSw; (try dsimp only at hSw); go_simp); try (with_reducible rfl))
    try simp only [Act.put, List.setIfInBounds_toArray, List.set_cons_zero, List.set_cons_succ]
    refine readyM (i := 2) (o := { dst := Option.none, op := Op.store 35 (Operand.tmp 2) (Operand.tmp 9), type := 0, pos := "ref.go:175", after := #[{ on := 0, ground := Ground.data }, { on := 0, ground := Ground.phase }, { on := 1, ground := Ground.textOnly Departure.lateStores }], guard := Option.none }) rfl (by kernel_rfl) ?_
    intro u1 hg1 hS1 K hK
    obtain ⟨g1, g2, g3, g4, g5⟩ := HF.out u1 (btrH' (Below.refl _ _).drew hg1)
    obtain ⟨d0, d1, f0, f1⟩ := cell_two g3
    have HT : Hid (∀ wx, Below ((u1.setCell ⟨z + 1, 0, none⟩ (.int .i64 0)).setCell ⟨z + 1, 1, none⟩ (.slice none 0 0)).heap.size ((u1.setCell ⟨z + 1, 0, none⟩ (.int .i64 0)).setCell ⟨z + 1, 1, none⟩ (.slice none 0 0)) wx → wx.heap[q]? = some (.cells #[.int .i64 E.1, .slice lo E.2.length lc] 52) ∧ HasPlaces wx (.slice lo E.2.length lc) E.2 ∧ wx.heap[z + 1]? = some (.cells #[.int .i64 0, .slice none 0 0] 35) ∧ wx.heap[z + 2]? = some (.cells #[.int .i64 0, .slice none 0 0] 52) ∧ Below w.heap.size w wx) := fun wx hx => by
      have ff : ∀ k, k ≠ z + 1 → ((u1.setCell ⟨z + 1, 0, none⟩ (.int .i64 0)).setCell ⟨z + 1, 1, none⟩ (.slice none 0 0)).heap[k]? = u1.heap[k]? := fun k hk => (Below.heap_setCell _ _ _ _ (by exact hk)).trans (Below.heap_setCell _ _ _ _ (by exact hk))
      have e1 := (ff q HNE.out.1).trans g1
      have e3 := set_err g3 (.int .i64 0) (.slice none 0 0)
      have e4 := (ff (z + 2) (by omega)).trans g4
      have e2 : HasPlaces ((u1.setCell ⟨z + 1, 0, none⟩ (.int .i64 0)).setCell ⟨z + 1, 1, none⟩ (.slice none 0 0)) (.slice lo E.2.length lc) E.2 := pl_sets (F := E) g3 g2 _ _
      have e5 : Below w.heap.size w ((u1.setCell ⟨z + 1, 0, none⟩ (.int .i64 0)).setCell ⟨z + 1, 1, none⟩ (.slice none 0 0)) := (g5.setCell (p := ⟨z + 1, 0, none⟩) (by have := HZZ.out; show _ ≤ z + 1; omega) _).setCell (p := ⟨z + 1, 1, none⟩) (by have := HZZ.out; show _ ≤ z + 1; omega) _
      exact ⟨(hx.block _ (some_lt e1)).trans e1, e2.keep hx, (hx.block _ (some_lt e3)).trans e3, (hx.block _ (some_lt e4)).trans e4, e5.trans (hx.mono e5.size)⟩
    clear hS1 g1 g2 g3 g4 g5 hg1
    go_simp
    refine hK.out _ _ (HSS.out _ (HT.out _ (Below.refl _ _)).1) ?_
    clear hK K d0 d1 f0 f1
    try simp only [Act.put, List.setIfInBounds_toArray, List.set_cons_zero, List.set_cons_succ]
    generalize ((u1.setCell ⟨z + 1, 0, none⟩ (.int .i64 0)).setCell ⟨z + 1, 1, none⟩ (.slice none 0 0)) = U2 at HT ⊢
    refine readyM (i := 3) (o := { dst := Option.none, op := Op.store 52 (Operand.tmp 3) (Operand.tmp 10), type := 0, pos := "ref.go:175", after := #[{ on := 1, ground := Ground.data }, { on := 2, ground := Ground.chain }, { on := 0, ground := Ground.phase }, { on := 1, ground := Ground.phase }, { on := 2, ground := Ground.phase }], guard := Option.none }) rfl (by kernel_rfl) ?_
    intro u3 hg3 hS3 K hK
    obtain ⟨g1, g2, g3, g4, g5⟩ := HT.out u3 hg3
    obtain ⟨d0, d1, f0, f1⟩ := cell_two g4
    have HT4 : Hid (((u3.setCell ⟨z + 2, 0, none⟩ (.int .i64 E.1)).setCell ⟨z + 2, 1, none⟩ (.slice lo E.2.length lc)).heap[z + 2]? = some (.cells #[.int .i64 E.1, .slice lo E.2.length lc] 52) ∧ ((u3.setCell ⟨z + 2, 0, none⟩ (.int .i64 E.1)).setCell ⟨z + 2, 1, none⟩ (.slice lo E.2.length lc)).heap[q]? = some (.cells #[.int .i64 E.1, .slice lo E.2.length lc] 52) ∧ ((u3.setCell ⟨z + 2, 0, none⟩ (.int .i64 E.1)).setCell ⟨z + 2, 1, none⟩ (.slice lo E.2.length lc)).heap[z + 1]? = some (.cells #[.int .i64 0, .slice none 0 0] 35) ∧ HasPlaces ((u3.setCell ⟨z + 2, 0, none⟩ (.int .i64 E.1)).setCell ⟨z + 2, 1, none⟩ (.slice lo E.2.length lc)) (.slice lo E.2.length lc) E.2 ∧ Below w.heap.size w ((u3.setCell ⟨z + 2, 0, none⟩ (.int .i64 E.1)).setCell ⟨z + 2, 1, none⟩ (.slice lo E.2.length lc))) := ⟨set_err g4 _ _, (Below.heap_setCell _ _ _ _ (by exact HNE.out.2)).trans ((Below.heap_setCell _ _ _ _ (by exact HNE.out.2)).trans g1), (Below.heap_setCell _ _ _ _ (by show z + 1 ≠ z + 2; omega)).trans ((Below.heap_setCell _ _ _ _ (by show z + 1 ≠ z + 2; omega)).trans g3), pl_sets (F := E) g4 g2 _ _, HSZ.out _ _ _ g5⟩
    clear hS3 g1 g2 g3 g4 g5 hg3 HT
    go_simp
    refine hK.out _ _ (HSS.out _ HT4.out.2.1) ?_
    clear hK K d0 d1 f0 f1
    try simp only [Act.put, List.setIfInBounds_toArray, List.set_cons_zero, List.set_cons_succ]
    generalize ((u3.setCell ⟨z + 2, 0, none⟩ (.int .i64 E.1)).setCell ⟨z + 2, 1, none⟩ (.slice lo E.2.length lc)) = U4 at HT4 ⊢
    refine wpAnyM_done (by kernel_rfl) ?_ _
    intro u9 hg9 hS9
    have H9 : Hid (u9.heap[z + 1]? = some (.cells #[.int .i64 0, .slice none 0 0] 35) ∧ u9.heap[z + 2]? = some (.cells #[.int .i64 E.1, .slice lo E.2.length lc] 52) ∧ HasPlaces u9 (.slice lo E.2.length lc) E.2 ∧ Below w.heap.size w u9) := ⟨(Below.block hg9 _ (some_lt HT4.out.2.2.1)).trans HT4.out.2.2.1, (Below.block hg9 _ (some_lt HT4.out.1)).trans HT4.out.1, HT4.out.2.2.2.1.keep hg9, HT4.out.2.2.2.2.trans (hg9.mono HT4.out.2.2.2.2.size)⟩
    clear hS9 hg9 HT4
    go_wp2
    exact bodyPost_ret (docGraph_res H9.out.1 H9.out.2.1 rfl rfl) rfl ⟨0, [], none, 0, lo, lc, HTA.out, by rw [HE.out]; rfl, ⟨none, 0, rfl, fun j a hj => by simp at hj⟩, by rw [HE.out]; exact H9.out.2.2.1, H9.out.2.2.2⟩
theorem docGraph_calls (v : HV) (h : Hr) (w : World) (hH : HasH w v h) (hb1 : h.up.length ≤ 1152921504606846976) (hb2 : h.dn.length ≤ 1152921504606846976) (hb3 : h.node.length ≤ 1152921504606846976) (hm : chk h = (0, []) → (stds h).length ≤ 262144) :
    Calls Try.prog 13 #[hvl v h] w fun e w' => DG h w e w' :=
  docGraph_aux v.no v.uo v.ul v.wo v.dl v.nc v.uc v.ulc v.wc v.dlc h w hH hb1 hb2 hb3 hm
end Go.Proofs.Ytkehpmbnbknpfaa.Hi
