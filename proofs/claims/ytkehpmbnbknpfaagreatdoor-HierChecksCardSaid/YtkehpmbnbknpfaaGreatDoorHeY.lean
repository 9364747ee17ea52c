/- viaductref10.DocEnds at every hierarchy and number; hier.Ends told the same way. (genic.py) viaductref10.Graph at every hierarchy in form: the normal graph of its plain links. (genie.py) viaductref10.DocGraph at every hierarchy; hier.Graph told the same way. (genif.py) the law HierChecks. (genig.py) -/
import Derived.Test.YtkehpmbnbknpfaaGreatDoorHeX
import Derived.Test.YtkehpmbnbknpfaaGreatDoorGrX
import Derived.Test.YtkehpmbnbknpfaaGreatDoorNoX
import Derived.Test.YtkehpmbnbknpfaaGreatDoorHsB
import Derived.Test.YtkehpmbnbknpfaaGreatDoorSeen
namespace Go.Proofs.YtkehpmbnbknpfaaGreatDoor.Hi
open Go.RowKit Go.Extern Go.Shelf

attribute [local go_sem] Oper.semAt_some

/-- what Ends answers: the two ends, and the error. -/
def EAns (h : Hr) (i : Int) : Int × Int × (Int × List (Int × Int)) := if chk h = (0, []) then endsE h i else (0, 0, chk h)
theorem eans_bad {h : Hr} {i : Int} (hc : chk h ≠ (0, [])) : EAns h i = (0, 0, chk h) := if_neg hc
theorem eans_arg {h : Hr} {i : Int} (hc : chk h = (0, [])) (hn : ¬ (0 ≤ i ∧ i < ((stds h).length : Int))) : EAns h i = (0, 0, (1, [])) := by
  unfold EAns endsE
  rw [if_pos hc, if_neg hn]
theorem eans_ok {h : Hr} {i : Nat} (hc : chk h = (0, [])) (hi : i < (stds h).length) : EAns h (i : Int) = (((sd (stds h) i).tail : Int), ((sd (stds h) i).head : Int), (0, [])) := by
  unfold EAns endsE
  rw [if_pos hc, if_pos ⟨by omega, by omega⟩]
  simp
theorem ends_any (v : HV) (h : Hr) (i : Int) (w : World) (hH : HasH w v h) (hb1 : h.up.length ≤ 1152921504606846976) (hb2 : h.dn.length ≤ 1152921504606846976) (hb3 : h.node.length ≤ 1152921504606846976) :
    Calls Tryz.prog 10 #[hvl v h, .int .i64 i] w fun e w' => ∃ u, e = .returned (.tuple #[.int .i64 (EAns h i).1, .int .i64 (EAns h i).2.1, u]) ∧ IsTold w' (EAns h i).2.2 u ∧ Below w.heap.size w w' := by
  refine (ends_calls v h i w hH hb1 hb2 hb3).mono ?_
  rintro e w' ⟨x, y, u, rfl, hb, hu⟩
  rcases hu with ⟨hc, he, rfl⟩ | ⟨hc, he, ht⟩ | ⟨hc, rfl, rfl, ht⟩
  · have e1 : EAns h i = (x, y, (0, [])) := by unfold EAns; rw [if_pos hc]; exact he.symm
    rw [e1]
    exact ⟨_, rfl, Or.inl ⟨rfl, rfl⟩, hb⟩
  · have e1 : EAns h i = (x, y, (1, [])) := by unfold EAns; rw [if_pos hc]; exact he.symm
    rw [e1]
    exact ⟨_, rfl, ht, hb⟩
  · rw [eans_bad hc]
    exact ⟨_, rfl, ht, hb⟩
/-- what DocEnds answers. -/
def DE (h : Hr) (i : Int) (w : World) (e : Ending) (w' : World) : Prop := ∃ lo lc, e = .returned (.tuple #[.int .i64 (EAns h i).1, .int .i64 (EAns h i).2.1, .agg #[.int .i64 (EAns h i).2.2.1, .slice lo (EAns h i).2.2.2.length lc]]) ∧ HasPlaces w' (.slice lo (EAns h i).2.2.2.length lc) (EAns h i).2.2.2 ∧ Below w.heap.size w w'
theorem de_of {h : Hr} {i x y : Int} {E : Int × List (Int × Int)} {w w' : World} {lo : Option Addr} {lc : Nat} (ha : EAns h i = (x, y, E)) (hp : HasPlaces w' (.slice lo E.2.length lc) E.2) (hb : Below w.heap.size w w') : DE h i w (.returned (.tuple #[.int .i64 x, .int .i64 y, .agg #[.int .i64 E.1, .slice lo E.2.length lc]])) w' := by
  refine ⟨lo, lc, ?_, ?_, hb⟩
  · rw [ha]
  · rw [ha]; exact hp
theorem docEnds_res {W : World} {z : Nat} {x0 x1 u v : Value} {tmps : Array Value} (h1 : W.heap[z]? = some (.cells #[x0, x1] 35)) (t6 : tmps[6]?.getD undef = .pointer (some ⟨z, 0, none⟩)) (t4 : tmps[4]?.getD undef = u) (t5 : tmps[5]?.getD undef = v) :
    (results Tryz.f11 tmps).run Tryz.prog W = .ok (.tuple #[u, v, .agg #[x0, x1]]) W := by
  obtain ⟨c0, c1, _, _⟩ := cell_two h1
  simp [results, Tryz.results11, go_sem, t4, t5, t6, c0, c1]
theorem rk_of {w : World} {B : Nat} {mo : Option Addr} {mc : Nat} {h : Hr} (ho : w.ownsRow B 3 1 (.slice mo (stds h).length mc) (stds h).length (ivs ((stds h).map fun s => (s.rk : Int)))) : HasRk w (.slice mo (stds h).length mc) h := ⟨B, mo, mc, rfl, ho⟩
theorem tri_cells {w : World} {b : Nat} {c0 c1 c2 : Value} {T : TypeId} (h : w.heap[b]? = some (.cells #[c0, c1, c2] T)) : (w.cell? ⟨b, 0, none⟩ = some c0 ∧ w.cell? ⟨b, 1, none⟩ = some c1 ∧ w.cell? ⟨b, 2, none⟩ = some c2) ∧ w.frozen? ⟨b, 0, none⟩ = false ∧ w.frozen? ⟨b, 1, none⟩ = false ∧ w.frozen? ⟨b, 2, none⟩ = false := by simp [World.cell?, World.frozen?, h]
theorem pl_set3 {wx : World} {b : Nat} {F : Int × List (Int × Int)} {fo : Option Addr} {fc : Nat} (y0 y1 y2 : Value) (hE : F = (0, [])) (hp : HasPlaces wx (.slice fo F.2.length fc) F.2) : HasPlaces (((wx.setCell ⟨b, 0, none⟩ y0).setCell ⟨b, 1, none⟩ y1).setCell ⟨b, 2, none⟩ y2) (.slice fo F.2.length fc) F.2 := by
  subst hE
  obtain ⟨ao, cap, e, _⟩ := hp
  exact ⟨ao, cap, e, fun j p hj => by simp at hj⟩

set_option maxRecDepth 100000 in
set_option maxHeartbeats 8000000 in
theorem docEnds_aux (no uo ul wo dl : Option Addr) (nc uc ulc wc dlc : Nat) (h : Hr) (i : Int) (w : World) (hH : HasH w ⟨no, uo, ul, wo, dl, nc, uc, ulc, wc, dlc⟩ h) (hb1 : h.up.length ≤ 1152921504606846976) (hb2 : h.dn.length ≤ 1152921504606846976) (hb3 : h.node.length ≤ 1152921504606846976) :
    Calls Tryz.prog 11 #[hvl ⟨no, uo, ul, wo, dl, nc, uc, ulc, wc, dlc⟩ h, .int .i64 i] w fun e w' => DE h i w e w' := by
  obtain ⟨z, hz⟩ : ∃ z, w.heap.size = z := ⟨_, rfl⟩
  obtain ⟨W0, hW0⟩ : ∃ W0, (w.alloc (.cells #[.slice no h.node.length nc, .slice uo h.upF.length uc, .slice ul h.up.length ulc, .slice wo h.dnF.length wc, .slice dl h.dn.length dlc] 25)).alloc (.cells #[.int .i64 0, .slice none 0 0] 35) = W0 := ⟨_, rfl⟩
  have hB0 : Below w.heap.size w W0 := by rw [← hW0]; exact ((Below.refl _ w).alloc (Nat.le_refl _) _).alloc (by simp) _
  have h0 : W0.heap[z]? = some (.cells #[.slice no h.node.length nc, .slice uo h.upF.length uc, .slice ul h.up.length ulc, .slice wo h.dnF.length wc, .slice dl h.dn.length dlc] 25) := by
    rw [← hW0, ← hz]; exact (Below.heap_alloc _ _ _ (by simp)).trans (heap_newW _ _)
  have h1 : W0.heap[z + 1]? = some (.cells #[.int .i64 0, .slice none 0 0] 35) := by
    have g := heap_newW (w.alloc (.cells #[.slice no h.node.length nc, .slice uo h.upF.length uc, .slice ul h.up.length ulc, .slice wo h.dnF.length wc, .slice dl h.dn.length dlc] 25)) (.cells #[.int .i64 0, .slice none 0 0] 35)
    rw [World.size_alloc, hW0, hz] at g
    exact g
  have HS0 : Hid (z + 1 < W0.heap.size) := some_lt h1
  have HQ : Hid (∀ wx, Below W0.heap.size W0 wx → wx.heap[z]? = some (.cells #[.slice no h.node.length nc, .slice uo h.upF.length uc, .slice ul h.up.length ulc, .slice wo h.dnF.length wc, .slice dl h.dn.length dlc] 25) ∧ wx.heap[z + 1]? = some (.cells #[.int .i64 0, .slice none 0 0] 35) ∧ HasH wx ⟨no, uo, ul, wo, dl, nc, uc, ulc, wc, dlc⟩ h ∧ Below w.heap.size w wx) := fun wx hx => by
    have g := hB0.trans (hx.mono hB0.size)
    exact ⟨(hx.block _ (some_lt h0)).trans h0, (hx.block _ (some_lt h1)).trans h1, hH.keep g, g⟩
  have HSZ : Hid (∀ (wx : World) (x y : Value), Below w.heap.size w wx → Below w.heap.size w ((wx.setCell ⟨z + 1, 0, none⟩ x).setCell ⟨z + 1, 1, none⟩ y)) := fun wx x y hx => (hx.setCell (p := ⟨z + 1, 0, none⟩) (by show w.heap.size ≤ z + 1; omega) _).setCell (p := ⟨z + 1, 1, none⟩) (by show w.heap.size ≤ z + 1; omega) _
  have HW0 : Hid ((w.alloc (.cells #[.slice no h.node.length nc, .slice uo h.upF.length uc, .slice ul h.up.length ulc, .slice wo h.dnF.length wc, .slice dl h.dn.length dlc] 25)).alloc (.cells #[.int .i64 0, .slice none 0 0] 35) = W0) := hW0
  have HZZ : Hid (w.heap.size = z) := hz
  have HB0 : Hid (Below W0.heap.size W0 W0) := Below.refl _ _
  have HDC : Hid (∀ wx, Below W0.heap.size W0 wx → Calls Tryz.prog 9 #[hvl ⟨no, uo, ul, wo, dl, nc, uc, ulc, wc, dlc⟩ h] wx fun e w' => RA wx (chk h) e w') := fun wx hx => docCheck10_calls _ h wx (HQ.out wx hx).2.2.1 hb1 hb2 hb3
  have HCT : Hid (∀ wx, Calls Tryz.prog 22 #[hvl ⟨no, uo, ul, wo, dl, nc, uc, ulc, wc, dlc⟩ h] wx fun e w' => e = .returned (.int .i64 ((h.up.length + h.dn.length : Nat) : Int)) ∧ Below wx.heap.size wx w') := fun wx => (count_calls ⟨no, uo, ul, wo, dl, nc, uc, ulc, wc, dlc⟩ h wx hb1 hb2).mono (by
    rintro e w' ⟨rfl, rfl⟩
    exact ⟨rfl, (Below.refl _ _).alloc (Nat.le_refl _) _⟩)
  have HRK0 : Hid (chk h = (0, []) → ∀ wx, HasH wx ⟨no, uo, ul, wo, dl, nc, uc, ulc, wc, dlc⟩ h → Calls Tryz.prog 36 #[hvl ⟨no, uo, ul, wo, dl, nc, uc, ulc, wc, dlc⟩ h] wx fun e w' => ∃ mo mc, e = .returned (.slice mo (stds h).length mc) ∧ w'.ownsRow wx.heap.size 3 1 (.slice mo (stds h).length mc) (stds h).length (ivs ((stds h).map fun s => (s.rk : Int))) ∧ Below wx.heap.size wx w') := fun hc wx hx => by
    obtain ⟨a1, a2, a3, a4, a5, a6, _, _⟩ := chk_ok hc
    exact ranksR_calls _ h wx hx a5 a6 (by omega) (by omega) a2
  have HEO9 : Hid (chk h = (0, []) → ∀ m, m < (stds h).length → ∀ (wx : World) (mo : Option Addr) (mc : Nat), HasH wx ⟨no, uo, ul, wo, dl, nc, uc, ulc, wc, dlc⟩ h → HasRk wx (.slice mo (stds h).length mc) h → Calls Tryz.prog 41 #[hvl ⟨no, uo, ul, wo, dl, nc, uc, ulc, wc, dlc⟩ h, .slice mo (stds h).length mc, .int .i64 (m : Int)] wx fun e w' => e = .returned (.agg #[.int .i64 ((sd (stds h) m).tail : Int), .int .i64 ((sd (stds h) m).head : Int), .int .i64 ((sd (stds h) m).rk : Int)]) ∧ Below wx.heap.size wx w') := fun hc m hml wx mo mc hx hr => by
    obtain ⟨a1, a2, a3, a4, a5, a6, _, _⟩ := chk_ok hc
    exact endOf_calls _ h mo mc m wx hx hr a5 a6 a2 hml
  clear hW0 h0 h1 hB0 hH
  have eHV : hvl ⟨no, uo, ul, wo, dl, nc, uc, ulc, wc, dlc⟩ h = .agg #[.slice no h.node.length nc, .slice uo h.upF.length uc, .slice ul h.up.length ulc, .slice wo h.dnF.length wc, .slice dl h.dn.length dlc] := rfl
  rw [eHV] at HDC HCT HRK0 HEO9 ⊢
  clear eHV
  go_enter Tryz.func11, Tryz.ntmps11
  go_upto_region 1 with fail
  rw [HW0.out]
  clear HW0 hz
  obtain ⟨c0, c1, c2, c3, c4⟩ := five_cells (HQ.out W0 HB0.out).1
  go_wp2_with fail
  refine (HDC.out W0 HB0.out).mono ?_
  rintro e w1 ⟨lo, lc, rfl, hp, hb⟩
  obtain ⟨E, hE⟩ : ∃ E, chk h = E := ⟨_, rfl⟩
  have HE : Hid (chk h = E) := hE
  rw [hE] at hp ⊢
  obtain ⟨q, hq⟩ : ∃ q, w1.heap.size = q := ⟨_, rfl⟩
  obtain ⟨W2, hW2⟩ : ∃ W2, w1.alloc (.cells #[.int .i64 E.1, .slice lo E.2.length lc] 35) = W2 := ⟨_, rfl⟩
  have HW2 : Hid (w1.alloc (.cells #[.int .i64 E.1, .slice lo E.2.length lc] 35) = W2) := hW2
  have H2 : Hid (∀ wx, Below W2.heap.size W2 wx → wx.heap[q]? = some (.cells #[.int .i64 E.1, .slice lo E.2.length lc] 35) ∧ HasPlaces wx (.slice lo E.2.length lc) E.2 ∧ Below W0.heap.size W0 wx) := fun wx hx => by
    have g1 : W2.heap[q]? = some (.cells #[.int .i64 E.1, .slice lo E.2.length lc] 35) := by rw [← hW2, ← hq]; exact heap_newW _ _
    have g2 : Below w1.heap.size w1 W2 := by rw [← hW2]; exact (Below.refl _ _).alloc (Nat.le_refl _) _
    have g3 := btrH' g2 hx
    exact ⟨(hx.block _ (some_lt g1)).trans g1, hp.keep g3, btrH' hb g3⟩
  have HQ0 : Hid (W0.heap.size ≤ q) := by rw [← hq]; exact hb.size
  clear hp hb hW2 c0 c1 c2 c3 c4 hE
  go_upto_region 2 with fail
  rw [HW2.out]
  clear HW2 hq
  obtain ⟨q0, q1, _, _⟩ := cell_two (H2.out W2 (Below.refl _ _)).1
  go_wp2_with fail
  refine (Hi.bad_calls E.1 lo E.2.length lc W2).mono ?_
  rintro e w3 ⟨rfl, hb⟩
  rw [bad_iff]
  have HB3 : Hid (Below W2.heap.size W2 w3) := hb
  clear hb q0 q1
  by_cases hc : E = (0, [])
  · have j1 : decide (E = (0, [])) = true := by simpa using hc
    have HC : Hid (chk h = (0, [])) := by show _ = _; rw [HE.out]; exact hc
    have HE0 : Hid (E = (0, [])) := hc
    obtain ⟨k1, k2, k3, k4, k5, k6, k7, k8⟩ := chk_ok HC.out
    have hlen := stds_len k5 k6
    have HLEN : Hid ((stds h).length = h.up.length + h.dn.length) := hlen
    have HB4' : Hid (Below W0.heap.size W0 w3) := (H2.out w3 HB3.out).2.2
    clear hc k3 k4 k7 k8
    by_cases hi0 : i < 0
    · have j2 : decide (i < 0) = true := by simpa using hi0
      have HAN : Hid (EAns h i = (0, 0, ((1 : Int), ([] : List (Int × Int))))) := eans_arg HC.out (fun g => absurd hi0 (by have := g.1; omega))
      have HQQ : Hid (q ≠ z + 1) := by have := HS0.out; have := HQ0.out; show q ≠ z + 1; omega
      clear hi0 hlen k1 k2 k5 k6
      go_wp2_with fail
      refine (E_calls 1 w3).mono ?_
      rintro e w4 ⟨rfl, hb⟩
      have HB4 : Hid (Below w3.heap.size w3 w4) := hb
      clear hb
      obtain ⟨g1, g2, g3⟩ := H2.out w4 (btrH' HB3.out HB4.out)
      obtain ⟨q0, q1, f0, f1⟩ := cell_two g1
      obtain ⟨W5, hW5⟩ : ∃ W5, ((w4.setCell ⟨q, 0, none⟩ (.int .i64 1)).setCell ⟨q, 1, none⟩ (.slice none 0 0)) = W5 := ⟨_, rfl⟩
      have HW5 : Hid (((w4.setCell ⟨q, 0, none⟩ (.int .i64 1)).setCell ⟨q, 1, none⟩ (.slice none 0 0)) = W5) := hW5
      have HF5 : Hid (∀ wx, Below W5.heap.size W5 wx → wx.heap[q]? = some (.cells #[.int .i64 1, .slice none 0 0] 35) ∧ HasPlaces wx (.slice none 0 0) [] ∧ wx.heap[z + 1]? = some (.cells #[.int .i64 0, .slice none 0 0] 35) ∧ Below w.heap.size w wx) := fun wx hx => by
        have e1 : W5.heap[q]? = some (.cells #[.int .i64 1, .slice none 0 0] 35) := by rw [← hW5]; exact set_err g1 _ _
        obtain ⟨_, a2, _, a4⟩ := HQ.out w4 g3
        have e2 : W5.heap[z + 1]? = some (.cells #[.int .i64 0, .slice none 0 0] 35) := by rw [← hW5]; exact (Below.heap_setCell _ _ _ _ (by exact HQQ.out.symm)).trans ((Below.heap_setCell _ _ _ _ (by exact HQQ.out.symm)).trans a2)
        have hq1 : w.heap.size ≤ q := by have := HQ0.out; have := HS0.out; have := HZZ.out; omega
        have e3 : Below w.heap.size w W5 := by rw [← hW5]; exact (a4.setCell (p := ⟨q, 0, none⟩) hq1 _).setCell (p := ⟨q, 1, none⟩) hq1 _
        exact ⟨(hx.block _ (some_lt e1)).trans e1, pl_nil _, (hx.block _ (some_lt e2)).trans e2, e3.trans (hx.mono e3.size)⟩
      clear g1 g2 g3 hW5
      go_upto_region 4 with fail
      rw [HW5.out]
      clear HW5 q0 q1 f0 f1
      obtain ⟨q0, q1, _, _⟩ := cell_two (HF5.out W5 (Below.refl _ _)).1
      go_wp2_with fail
      refine (Hi.bad_calls 1 none 0 0 W5).mono ?_
      rintro e w6 ⟨rfl, hb⟩
      have HF4 : Hid (∀ wx, Below w6.heap.size w6 wx → wx.heap[q]? = some (.cells #[.int .i64 1, .slice none 0 0] 35) ∧ HasPlaces wx (.slice none 0 0) [] ∧ wx.heap[z + 1]? = some (.cells #[.int .i64 0, .slice none 0 0] 35) ∧ Below w.heap.size w wx) := fun wx hx => HF5.out wx (btrH' hb hx)
      clear hb q0 q1 HF5
      go_wp2_with fail
      have HSS : Hid (∀ wx : World, wx.heap[q]? = some (.cells #[.int .i64 1, .slice none 0 0] 35) → (fun w' => w'.cell? ⟨q, 0, none⟩ = some (.int .i64 1) ∧ w'.cell? ⟨q, 1, none⟩ = some (.slice none 0 0) ∧ Hid (w'.heap[q]? = some (.cells #[.int .i64 1, .slice none 0 0] 35))) wx) := fun wx hx => by
        obtain ⟨b0, b1, _, _⟩ := cell_two hx
        exact ⟨b0, b1, hx⟩
      refine wp_region_M (S := (fun w' => w'.cell? ⟨q, 0, none⟩ = some (.int .i64 1) ∧ w'.cell? ⟨q, 1, none⟩ = some (.slice none 0 0) ∧ Hid (w'.heap[q]? = some (.cells #[.int .i64 1, .slice none 0 0] 35)))) (by kernel_rfl) (HSS.out _ (HF4.out _ (Below.refl _ _).drew).1) ?_
      refine wpAnyM_take (i := 0) (oi := { dst := Option.some 27, op := Op.load 35 (Operand.tmp 7), type := 35, pos := "ref.go:145", after := #[{ on := 2, ground := Ground.gcOnly Departure.lateStores }], guard := Option.none }) (v := ?vf4z0) rfl (by kernel_rfl) (by kernel_rfl) (by kernel_rfl) (fun _ _ _ h => h) (YieldsM.of_if (Or.inl ⟨by rfl, ?hf4z0⟩)) ?rf4z0
      case hf4z0 => ((intro wz hSw; (try dsimp only at hSw); go_simp); try (with_reducible rfl))
      try simp only [Act.put, List.setIfInBounds_toArray, List.set_cons_zero, List.set_cons_succ]
      refine wpAnyM_take (i := 1) (oi := { dst := Option.some 4, op := Op.assign (Operand.const (Value.int IntKind.i64 0)), type := 3, pos := "ref.go:145", after := #[{ on := 0, ground := Ground.textOnly Departure.lateStores }], guard := Option.none }) (v := ?vf5z1) rfl (by kernel_rfl) (by kernel_rfl) (by kernel_rfl) (fun _ _ _ h => h) (YieldsM.of_if (Or.inl ⟨by rfl, ?hf5z1⟩)) ?rf5z1
      case hf5z1 => ((intro wz hSw; (try dsimp only at hSw); go_simp); try (with_reducible rfl))
      try simp only [Act.put, List.setIfInBounds_toArray, List.set_cons_zero, List.set_cons_succ]
      refine wpAnyM_take (i := 2) (oi := { dst := Option.some 5, op := Op.assign (Operand.const (Value.int IntKind.i64 0)), type := 3, pos := "ref.go:145", after := #[{ on := 1, ground := Ground.chain }, { on := 0, ground := Ground.textOnly Departure.lateStores }, { on := 1, ground := Ground.phase }], guard := Option.none }) (v := ?vf6z2) rfl (by kernel_rfl) (by kernel_rfl) (by kernel_rfl) (fun _ _ _ h => h) (YieldsM.of_if (Or.inl ⟨by rfl, ?hf6z2⟩)) ?rf6z2
      case hf6z2 => ((intro wz hSw; (try dsimp only at hSw); go_simp); try (with_reducible rfl))
      try simp only [Act.put, List.setIfInBounds_toArray, List.set_cons_zero, List.set_cons_succ]
      refine readyM (i := 3) (o := { dst := Option.none, op := Op.store 35 (Operand.tmp 6) (Operand.tmp 27), type := 0, pos := "ref.go:145", after := #[{ on := 0, ground := Ground.data }, { on := 2, ground := Ground.chain }, { on := 0, ground := Ground.phase }, { on := 1, ground := Ground.phase }, { on := 2, ground := Ground.phase }], guard := Option.none }) rfl (by kernel_rfl) ?_
      intro u1 hg1 hS1 K hK
      obtain ⟨g1, g2, g4, g5⟩ := HF4.out u1 (btrH' (Below.refl _ _).drew hg1)
      obtain ⟨d0, d1, f0, f1⟩ := cell_two g4
      have HT : Hid (((u1.setCell ⟨z + 1, 0, none⟩ (.int .i64 1)).setCell ⟨z + 1, 1, none⟩ (.slice none 0 0)).heap[z + 1]? = some (.cells #[.int .i64 1, .slice none 0 0] 35) ∧ ((u1.setCell ⟨z + 1, 0, none⟩ (.int .i64 1)).setCell ⟨z + 1, 1, none⟩ (.slice none 0 0)).heap[q]? = some (.cells #[.int .i64 1, .slice none 0 0] 35) ∧ HasPlaces ((u1.setCell ⟨z + 1, 0, none⟩ (.int .i64 1)).setCell ⟨z + 1, 1, none⟩ (.slice none 0 0)) (.slice none 0 0) [] ∧ Below w.heap.size w ((u1.setCell ⟨z + 1, 0, none⟩ (.int .i64 1)).setCell ⟨z + 1, 1, none⟩ (.slice none 0 0))) := ⟨set_err g4 _ _, (Below.heap_setCell _ _ _ _ (by exact HQQ.out)).trans ((Below.heap_setCell _ _ _ _ (by exact HQQ.out)).trans g1), pl_nil _, HSZ.out _ _ _ g5⟩
      clear hS1 g1 g2 g4 g5 hg1
      go_simp
      refine hK.out _ _ (HSS.out _ HT.out.2.1) ?_
      clear hK K d0 d1 f0 f1
      try simp only [Act.put, List.setIfInBounds_toArray, List.set_cons_zero, List.set_cons_succ]
      generalize ((u1.setCell ⟨z + 1, 0, none⟩ (.int .i64 1)).setCell ⟨z + 1, 1, none⟩ (.slice none 0 0)) = U2 at HT ⊢
      refine wpAnyM_done (by kernel_rfl) ?_ _
      intro u9 hg9 hS9
      have H9 : Hid (u9.heap[z + 1]? = some (.cells #[.int .i64 1, .slice none 0 0] 35) ∧ HasPlaces u9 (.slice none 0 0) [] ∧ Below w.heap.size w u9) := ⟨(Below.block hg9 _ (some_lt HT.out.1)).trans HT.out.1, HT.out.2.2.1.keep hg9, HT.out.2.2.2.trans (hg9.mono HT.out.2.2.2.size)⟩
      clear hS9 hg9 HT
      go_wp2
      exact bodyPost_ret (docEnds_res H9.out.1 rfl rfl rfl) rfl (de_of (E := (1, [])) HAN.out H9.out.2.1 H9.out.2.2)
    · obtain ⟨m, rfl⟩ : ∃ m : Nat, i = (m : Int) := ⟨i.toNat, by omega⟩
      have j2 : decide ((m : Int) < 0) = false := decide_eq_false (by omega)
      obtain ⟨c0, c1, c2, c3, c4⟩ := five_cells (HQ.out w3 HB4'.out).1
      obtain ⟨n, hn⟩ : ∃ n, h.up.length + h.dn.length = n := ⟨_, rfl⟩
      rw [hn] at HCT HLEN
      have HN : Hid (h.up.length + h.dn.length = n) := hn
      clear hn hi0 hlen
      go_wp2_with fail
      refine (HCT.out w3).mono ?_
      rintro e wk ⟨rfl, hbc⟩
      have HBC : Hid (Below w3.heap.size w3 wk) := hbc
      clear hbc c0 c1 c2 c3 c4
      by_cases him : n ≤ m
      · have j3 : decide ((m : Int) ≥ (n : Int)) = true := decide_eq_true (by omega)
        have j4 : decide (n ≤ m) = true := by simpa using him
        have HAN : Hid (EAns h (m : Int) = (0, 0, ((1 : Int), ([] : List (Int × Int))))) := eans_arg HC.out (fun g => by have := g.2; rw [HLEN.out] at this; omega)
        have HQQ : Hid (q ≠ z + 1) := by have := HS0.out; have := HQ0.out; show q ≠ z + 1; omega
        clear him k1 k2 k5 k6
        go_wp2_with fail
        refine (E_calls 1 wk).mono ?_
        rintro e w4 ⟨rfl, hb⟩
        have HB4 : Hid (Below w3.heap.size w3 w4) := btrH' HBC.out hb
        clear hb
        obtain ⟨g1, g2, g3⟩ := H2.out w4 (btrH' HB3.out HB4.out)
        obtain ⟨q0, q1, f0, f1⟩ := cell_two g1
        obtain ⟨W5, hW5⟩ : ∃ W5, ((w4.setCell ⟨q, 0, none⟩ (.int .i64 1)).setCell ⟨q, 1, none⟩ (.slice none 0 0)) = W5 := ⟨_, rfl⟩
        have HW5 : Hid (((w4.setCell ⟨q, 0, none⟩ (.int .i64 1)).setCell ⟨q, 1, none⟩ (.slice none 0 0)) = W5) := hW5
        have HF5 : Hid (∀ wx, Below W5.heap.size W5 wx → wx.heap[q]? = some (.cells #[.int .i64 1, .slice none 0 0] 35) ∧ HasPlaces wx (.slice none 0 0) [] ∧ wx.heap[z + 1]? = some (.cells #[.int .i64 0, .slice none 0 0] 35) ∧ Below w.heap.size w wx) := fun wx hx => by
          have e1 : W5.heap[q]? = some (.cells #[.int .i64 1, .slice none 0 0] 35) := by rw [← hW5]; exact set_err g1 _ _
          obtain ⟨_, a2, _, a4⟩ := HQ.out w4 g3
          have e2 : W5.heap[z + 1]? = some (.cells #[.int .i64 0, .slice none 0 0] 35) := by rw [← hW5]; exact (Below.heap_setCell _ _ _ _ (by exact HQQ.out.symm)).trans ((Below.heap_setCell _ _ _ _ (by exact HQQ.out.symm)).trans a2)
          have hq1 : w.heap.size ≤ q := by have := HQ0.out; have := HS0.out; have := HZZ.out; omega
          have e3 : Below w.heap.size w W5 := by rw [← hW5]; exact (a4.setCell (p := ⟨q, 0, none⟩) hq1 _).setCell (p := ⟨q, 1, none⟩) hq1 _
          exact ⟨(hx.block _ (some_lt e1)).trans e1, pl_nil _, (hx.block _ (some_lt e2)).trans e2, e3.trans (hx.mono e3.size)⟩
        clear g1 g2 g3 hW5
        go_upto_region 4 with fail
        rw [HW5.out]
        clear HW5 q0 q1 f0 f1
        obtain ⟨q0, q1, _, _⟩ := cell_two (HF5.out W5 (Below.refl _ _)).1
        go_wp2_with fail
        refine (Hi.bad_calls 1 none 0 0 W5).mono ?_
        rintro e w6 ⟨rfl, hb⟩
        have HF4 : Hid (∀ wx, Below w6.heap.size w6 wx → wx.heap[q]? = some (.cells #[.int .i64 1, .slice none 0 0] 35) ∧ HasPlaces wx (.slice none 0 0) [] ∧ wx.heap[z + 1]? = some (.cells #[.int .i64 0, .slice none 0 0] 35) ∧ Below w.heap.size w wx) := fun wx hx => HF5.out wx (btrH' hb hx)
        clear hb q0 q1 HF5
        go_wp2_with fail
        have HSS : Hid (∀ wx : World, wx.heap[q]? = some (.cells #[.int .i64 1, .slice none 0 0] 35) → (fun w' => w'.cell? ⟨q, 0, none⟩ = some (.int .i64 1) ∧ w'.cell? ⟨q, 1, none⟩ = some (.slice none 0 0) ∧ Hid (w'.heap[q]? = some (.cells #[.int .i64 1, .slice none 0 0] 35))) wx) := fun wx hx => by
          obtain ⟨b0, b1, _, _⟩ := cell_two hx
          exact ⟨b0, b1, hx⟩
        refine wp_region_M (S := (fun w' => w'.cell? ⟨q, 0, none⟩ = some (.int .i64 1) ∧ w'.cell? ⟨q, 1, none⟩ = some (.slice none 0 0) ∧ Hid (w'.heap[q]? = some (.cells #[.int .i64 1, .slice none 0 0] 35)))) (by kernel_rfl) (HSS.out _ (HF4.out _ (Below.refl _ _).drew).1) ?_
        refine wpAnyM_take (i := 0) (oi := { dst := Option.some 27, op := Op.load 35 (Operand.tmp 7), type := 35, pos := "ref.go:145", after := #[{ on := 2, ground := Ground.gcOnly Departure.lateStores }], guard := Option.none }) (v := ?vg7z0) rfl (by kernel_rfl) (by kernel_rfl) (by kernel_rfl) (fun _ _ _ h => h) (YieldsM.of_if (Or.inl ⟨by rfl, ?hg7z0⟩)) ?rg7z0
        case hg7z0 => ((intro wz hSw; (try dsimp only at hSw); go_simp); try (with_reducible rfl))
        try simp only [Act.put, List.setIfInBounds_toArray, List.set_cons_zero, List.set_cons_succ]
        refine wpAnyM_take (i := 1) (oi := { dst := Option.some 4, op := Op.assign (Operand.const (Value.int IntKind.i64 0)), type := 3, pos := "ref.go:145", after := #[{ on := 0, ground := Ground.textOnly Departure.lateStores }], guard := Option.none }) (v := ?vg8z1) rfl (by kernel_rfl) (by kernel_rfl) (by kernel_rfl) (fun _ _ _ h => h) (YieldsM.of_if (Or.inl ⟨by rfl, ?hg8z1⟩)) ?rg8z1
        case hg8z1 => ((intro wz hSw; (try dsimp only at hSw); go_simp); try (with_reducible rfl))
        try simp only [Act.put, List.setIfInBounds_toArray, List.set_cons_zero, List.set_cons_succ]
        refine wpAnyM_take (i := 2) (oi := { dst := Option.some 5, op := Op.assign (Operand.const (Value.int IntKind.i64 0)), type := 3, pos := "ref.go:145", after := #[{ on := 1, ground := Ground.chain }, { on := 0, ground := Ground.textOnly Departure.lateStores }, { on := 1, ground := Ground.phase }], guard := Option.none }) (v := ?vg9z2) rfl (by kernel_rfl) (by kernel_rfl) (by kernel_rfl) (fun _ _ _ h => h) (YieldsM.of_if (Or.inl ⟨by rfl, ?hg9z2⟩)) ?rg9z2
        case hg9z2 => ((intro wz hSw; (try dsimp only at hSw); go_simp); try (with_reducible rfl))
        try simp only [Act.put, List.setIfInBounds_toArray, List.set_cons_zero, List.set_cons_succ]
        refine readyM (i := 3) (o := { dst := Option.none, op := Op.store 35 (Operand.tmp 6) (Operand.tmp 27), type := 0, pos := "ref.go:145", after := #[{ on := 0, ground := Ground.data }, { on := 2, ground := Ground.chain }, { on := 0, ground := Ground.phase }, { on := 1, ground := Ground.phase }, { on := 2, ground := Ground.phase }], guard := Option.none }) rfl (by kernel_rfl) ?_
        intro u1 hg1 hS1 K hK
        obtain ⟨g1, g2, g4, g5⟩ := HF4.out u1 (btrH' (Below.refl _ _).drew hg1)
        obtain ⟨d0, d1, f0, f1⟩ := cell_two g4
        have HT : Hid (((u1.setCell ⟨z + 1, 0, none⟩ (.int .i64 1)).setCell ⟨z + 1, 1, none⟩ (.slice none 0 0)).heap[z + 1]? = some (.cells #[.int .i64 1, .slice none 0 0] 35) ∧ ((u1.setCell ⟨z + 1, 0, none⟩ (.int .i64 1)).setCell ⟨z + 1, 1, none⟩ (.slice none 0 0)).heap[q]? = some (.cells #[.int .i64 1, .slice none 0 0] 35) ∧ HasPlaces ((u1.setCell ⟨z + 1, 0, none⟩ (.int .i64 1)).setCell ⟨z + 1, 1, none⟩ (.slice none 0 0)) (.slice none 0 0) [] ∧ Below w.heap.size w ((u1.setCell ⟨z + 1, 0, none⟩ (.int .i64 1)).setCell ⟨z + 1, 1, none⟩ (.slice none 0 0))) := ⟨set_err g4 _ _, (Below.heap_setCell _ _ _ _ (by exact HQQ.out)).trans ((Below.heap_setCell _ _ _ _ (by exact HQQ.out)).trans g1), pl_nil _, HSZ.out _ _ _ g5⟩
        clear hS1 g1 g2 g4 g5 hg1
        go_simp
        refine hK.out _ _ (HSS.out _ HT.out.2.1) ?_
        clear hK K d0 d1 f0 f1
        try simp only [Act.put, List.setIfInBounds_toArray, List.set_cons_zero, List.set_cons_succ]
        generalize ((u1.setCell ⟨z + 1, 0, none⟩ (.int .i64 1)).setCell ⟨z + 1, 1, none⟩ (.slice none 0 0)) = U2 at HT ⊢
        refine wpAnyM_done (by kernel_rfl) ?_ _
        intro u9 hg9 hS9
        have H9 : Hid (u9.heap[z + 1]? = some (.cells #[.int .i64 1, .slice none 0 0] 35) ∧ HasPlaces u9 (.slice none 0 0) [] ∧ Below w.heap.size w u9) := ⟨(Below.block hg9 _ (some_lt HT.out.1)).trans HT.out.1, HT.out.2.2.1.keep hg9, HT.out.2.2.2.trans (hg9.mono HT.out.2.2.2.size)⟩
        clear hS9 hg9 HT
        go_wp2
        exact bodyPost_ret (docEnds_res H9.out.1 rfl rfl rfl) rfl (de_of (E := (1, [])) HAN.out H9.out.2.1 H9.out.2.2)
      · have j3 : decide ((m : Int) ≥ (n : Int)) = false := decide_eq_false (by omega)
        have j4 : decide (n ≤ m) = false := by simpa using him
        have hml : m < (stds h).length := by rw [HLEN.out]; omega
        have HAN0 := eans_ok HC.out hml
        have HRK : Hid (type_of% (HRK0.out HC.out)) := HRK0.out HC.out
        have HEO0 := HEO9.out HC.out m hml
        obtain ⟨tl, htl⟩ : ∃ tl, (sd (stds h) m).tail = tl := ⟨_, rfl⟩
        obtain ⟨hv, hhv⟩ : ∃ hv, (sd (stds h) m).head = hv := ⟨_, rfl⟩
        obtain ⟨rk, hrk⟩ : ∃ rk, (sd (stds h) m).rk = rk := ⟨_, rfl⟩
        rw [htl, hhv] at HAN0
        rw [htl, hhv, hrk] at HEO0
        have HEO : Hid (type_of% HEO0) := HEO0
        have HAN : Hid (EAns h (m : Int) = ((tl : Int), (hv : Int), E)) := by rw [HE0.out]; exact HAN0
        have HQQ : Hid (q ≠ z + 1) := by have := HS0.out; have := HQ0.out; show q ≠ z + 1; omega
        clear HAN0 HEO0 htl hhv hrk him hml k1 k2 k5 k6
        obtain ⟨q0, q1, _, _⟩ := cell_two (H2.out wk (btrH' HB3.out HBC.out)).1
        go_wp2_with fail
        refine (Hi.bad_calls E.1 lo E.2.length lc wk).mono ?_
        rintro e w5 ⟨rfl, hb⟩
        rw [bad_iff]
        have Gw5' : Hid (∀ wx, Below w5.heap.size w5 wx → wx.heap[q]? = some (.cells #[.int .i64 E.1, .slice lo E.2.length lc] 35) ∧ HasPlaces wx (.slice lo E.2.length lc) E.2 ∧ wx.heap[z]? = some (.cells #[.slice no h.node.length nc, .slice uo h.upF.length uc, .slice ul h.up.length ulc, .slice wo h.dnF.length wc, .slice dl h.dn.length dlc] 25) ∧ wx.heap[z + 1]? = some (.cells #[.int .i64 0, .slice none 0 0] 35) ∧ HasH wx ⟨no, uo, ul, wo, dl, nc, uc, ulc, wc, dlc⟩ h ∧ Below w.heap.size w wx) := fun wx hx => by
          obtain ⟨g1, g2, g3⟩ := H2.out wx (btrH' HB3.out (btrH' HBC.out (btrH' hb hx)))
          obtain ⟨a1, a2, a3, a4⟩ := HQ.out wx g3
          exact ⟨g1, g2, a1, a2, a3, a4⟩
        have Gw5 : Hid (∀ wx, Below w5.drew.heap.size w5.drew wx → wx.heap[q]? = some (.cells #[.int .i64 E.1, .slice lo E.2.length lc] 35) ∧ HasPlaces wx (.slice lo E.2.length lc) E.2 ∧ wx.heap[z]? = some (.cells #[.slice no h.node.length nc, .slice uo h.upF.length uc, .slice ul h.up.length ulc, .slice wo h.dnF.length wc, .slice dl h.dn.length dlc] 25) ∧ wx.heap[z + 1]? = some (.cells #[.int .i64 0, .slice none 0 0] 35) ∧ HasH wx ⟨no, uo, ul, wo, dl, nc, uc, ulc, wc, dlc⟩ h ∧ Below w.heap.size w wx) := fun wx hx => Gw5'.out wx (btrH' (Below.refl _ _).drew hx)
        clear hb q0 q1
        go_wp2_with fail
        have HSS : Hid (∀ wx : World, wx.heap[z]? = some (.cells #[.slice no h.node.length nc, .slice uo h.upF.length uc, .slice ul h.up.length ulc, .slice wo h.dnF.length wc, .slice dl h.dn.length dlc] 25) → (fun w' => w'.cell? ⟨z, 0, none⟩ = some (.slice no h.node.length nc) ∧ w'.cell? ⟨z, 1, none⟩ = some (.slice uo h.upF.length uc) ∧ w'.cell? ⟨z, 2, none⟩ = some (.slice ul h.up.length ulc) ∧ w'.cell? ⟨z, 3, none⟩ = some (.slice wo h.dnF.length wc) ∧ w'.cell? ⟨z, 4, none⟩ = some (.slice dl h.dn.length dlc) ∧ Hid (w'.heap[z]? = some (.cells #[.slice no h.node.length nc, .slice uo h.upF.length uc, .slice ul h.up.length ulc, .slice wo h.dnF.length wc, .slice dl h.dn.length dlc] 25))) wx) := fun wx hx => by
          obtain ⟨b0, b1, b2, b3, b4⟩ := five_cells hx
          exact ⟨b0, b1, b2, b3, b4, hx⟩
        refine wp_region_M (S := (fun w' => w'.cell? ⟨z, 0, none⟩ = some (.slice no h.node.length nc) ∧ w'.cell? ⟨z, 1, none⟩ = some (.slice uo h.upF.length uc) ∧ w'.cell? ⟨z, 2, none⟩ = some (.slice ul h.up.length ulc) ∧ w'.cell? ⟨z, 3, none⟩ = some (.slice wo h.dnF.length wc) ∧ w'.cell? ⟨z, 4, none⟩ = some (.slice dl h.dn.length dlc) ∧ Hid (w'.heap[z]? = some (.cells #[.slice no h.node.length nc, .slice uo h.upF.length uc, .slice ul h.up.length ulc, .slice wo h.dnF.length wc, .slice dl h.dn.length dlc] 25)))) (by kernel_rfl) (HSS.out _ (Gw5'.out _ (Below.refl _ _).drew).2.2.1) ?_
        refine wpAnyM_take (i := 0) (oi := { dst := Option.some 28, op := Op.load 25 (Operand.tmp 2), type := 25, pos := "ref.go:147", after := #[], guard := Option.none }) (v := ?vr10z0) rfl (by kernel_rfl) (by kernel_rfl) (by kernel_rfl) (fun _ _ _ h => h) (YieldsM.of_if (Or.inl ⟨by rfl, ?hr10z0⟩)) ?rr10z0
        case hr10z0 => ((intro wz hSw; (try dsimp only at hSw); go_simp); try (with_reducible rfl))
        try simp only [Act.put, List.setIfInBounds_toArray, List.set_cons_zero, List.set_cons_succ]
        refine wpAnyM_take (i := 1) (oi := { dst := Option.some 29, op := Op.load 25 (Operand.tmp 2), type := 25, pos := "ref.go:147", after := #[], guard := Option.none }) (v := ?vr11z1) rfl (by kernel_rfl) (by kernel_rfl) (by kernel_rfl) (fun _ _ _ h => h) (YieldsM.of_if (Or.inl ⟨by rfl, ?hr11z1⟩)) ?rr11z1
        case hr11z1 => ((intro wz hSw; (try dsimp only at hSw); go_simp); try (with_reducible rfl))
        try simp only [Act.put, List.setIfInBounds_toArray, List.set_cons_zero, List.set_cons_succ]
        refine wpAnyM_take (i := 3) (oi := { dst := Option.some 31, op := Op.move (Operand.tmp 1), type := 3, pos := "ref.go:147", after := #[], guard := Option.none }) (v := ?vr12z3) rfl (by kernel_rfl) (by kernel_rfl) (by kernel_rfl) (fun _ _ _ h => h) (YieldsM.of_if (Or.inl ⟨by rfl, ?hr12z3⟩)) ?rr12z3
        case hr12z3 => ((intro wz hSw; (try dsimp only at hSw); go_simp); try (with_reducible rfl))
        try simp only [Act.put, List.setIfInBounds_toArray, List.set_cons_zero, List.set_cons_succ]
        refine ready2M (i := 2) (j := 5) (oi := { dst := Option.some 30, op := Op.call { callee := Callee.value (Operand.func 36), args := #[Operand.tmp 29], argTypes := #[25] }, type := 49, pos := "ref.go:147", after := #[{ on := 1, ground := Ground.data }], guard := Option.none }) (oj := { dst := Option.some 8, op := Op.alloc 100, type := 0, pos := "ref.go:147", after := #[], guard := Option.none }) rfl rfl (by kernel_rfl) ?_ ?_
        · intro u1 hg1 hS1 K hK
          have hf1 := Gw5.out u1 hg1
          clear hS1
          go_simp
          refine (HRK.out u1 hf1.2.2.2.2.1).mono ?_
          rintro e v1 ⟨mo, mc, rfl, ho, hb1⟩
          have hrk := rk_of ho
          go_wp2_with fail
          have Gv1 : Hid (∀ wx, Below v1.heap.size v1 wx → (wx.heap[q]? = some (.cells #[.int .i64 E.1, .slice lo E.2.length lc] 35) ∧ HasPlaces wx (.slice lo E.2.length lc) E.2 ∧ wx.heap[z]? = some (.cells #[.slice no h.node.length nc, .slice uo h.upF.length uc, .slice ul h.up.length ulc, .slice wo h.dnF.length wc, .slice dl h.dn.length dlc] 25) ∧ wx.heap[z + 1]? = some (.cells #[.int .i64 0, .slice none 0 0] 35) ∧ HasH wx ⟨no, uo, ul, wo, dl, nc, uc, ulc, wc, dlc⟩ h ∧ Below w.heap.size w wx) ∧ HasRk wx (.slice mo (stds h).length mc) h) := fun wx hx => by
            have gx := btrH' hg1 (btrH' hb1 hx)
            exact ⟨(Gw5.out wx gx), hrk.keep hx⟩
          refine hK.out _ _ (HSS.out _ (Gv1.out _ (Below.refl _ _)).1.2.2.1) ?_
          clear hK K hf1 hg1 hb1 hrk ho
          try simp only [Act.put, List.setIfInBounds_toArray, List.set_cons_zero, List.set_cons_succ]
          refine ready2M (i := 4) (j := 5) (oi := { dst := Option.some 32, op := Op.call { callee := Callee.value (Operand.func 41), args := #[Operand.tmp 28, Operand.tmp 30, Operand.tmp 31], argTypes := #[25, 49, 3] }, type := 100, pos := "ref.go:147", after := #[{ on := 0, ground := Ground.data }, { on := 2, ground := Ground.data }, { on := 3, ground := Ground.data }, { on := 2, ground := Ground.chain }], guard := Option.none }) (oj := { dst := Option.some 8, op := Op.alloc 100, type := 0, pos := "ref.go:147", after := #[], guard := Option.none }) rfl rfl (by kernel_rfl) ?_ ?_
          · intro u2 hg2 hS2 K hK
            have hf2 := Gv1.out u2 hg2
            clear hS2
            go_simp
            refine (HEO.out u2 mo mc hf2.1.2.2.2.2.1 hf2.2).mono ?_
            rintro e v2 ⟨rfl, hb2⟩
            go_wp2_with fail
            have Gv2 : Hid (∀ wx, Below v2.heap.size v2 wx → (wx.heap[q]? = some (.cells #[.int .i64 E.1, .slice lo E.2.length lc] 35) ∧ HasPlaces wx (.slice lo E.2.length lc) E.2 ∧ wx.heap[z]? = some (.cells #[.slice no h.node.length nc, .slice uo h.upF.length uc, .slice ul h.up.length ulc, .slice wo h.dnF.length wc, .slice dl h.dn.length dlc] 25) ∧ wx.heap[z + 1]? = some (.cells #[.int .i64 0, .slice none 0 0] 35) ∧ HasH wx ⟨no, uo, ul, wo, dl, nc, uc, ulc, wc, dlc⟩ h ∧ Below w.heap.size w wx) ∧ HasRk wx (.slice mo (stds h).length mc) h) := fun wx hx => by
              have gx := btrH' hg2 (btrH' hb2 hx)
              exact Gv1.out wx gx
            refine hK.out _ _ (HSS.out _ (Gv2.out _ (Below.refl _ _)).1.2.2.1) ?_
            clear hK K hf2 hg2 hb2
            try simp only [Act.put, List.setIfInBounds_toArray, List.set_cons_zero, List.set_cons_succ]
            refine readyM (i := 5) (o := { dst := Option.some 8, op := Op.alloc 100, type := 0, pos := "ref.go:147", after := #[], guard := Option.none }) rfl (by kernel_rfl) ?_
            intro u3 hg3 hS3 K hK
            have hf3 := Gv2.out u3 hg3
            clear hS3
            obtain ⟨y, hy⟩ : ∃ y, u3.heap.size = y := ⟨_, rfl⟩
            obtain ⟨v3, hn3⟩ : ∃ v, u3.alloc (.cells #[.int .i64 0, .int .i64 0, .int .i64 0] 100) = v := ⟨_, rfl⟩
            have HN3 : Hid (u3.alloc (.cells #[.int .i64 0, .int .i64 0, .int .i64 0] 100) = v3) := hn3
            have hb3 : Below u3.heap.size u3 v3 := by rw [← hn3]; exact (Below.refl _ _).alloc (Nat.le_refl _) _
            have hyb : v3.heap[y]? = some (.cells #[.int .i64 0, .int .i64 0, .int .i64 0] 100) := by rw [← hn3, ← hy]; exact heap_newW _ _
            have HYY : Hid (y ≠ z + 1) := by have := some_lt hf3.1.2.2.2.1; show y ≠ z + 1; omega
            have HYQ : Hid (y ≠ q ∧ y ≠ z) := by have := some_lt hf3.1.1; have := some_lt hf3.1.2.2.1; show y ≠ q ∧ y ≠ z; omega
            have HYW : Hid (w.heap.size ≤ y) := by have := Below.size hf3.1.2.2.2.2.2; show _ ≤ y; omega
            go_simp
            try rw [HN3.out]
            try rw [hy]
            clear HN3 hn3
            have Gv3 : Hid (∀ wx, Below v3.heap.size v3 wx → (wx.heap[q]? = some (.cells #[.int .i64 E.1, .slice lo E.2.length lc] 35) ∧ HasPlaces wx (.slice lo E.2.length lc) E.2 ∧ wx.heap[z]? = some (.cells #[.slice no h.node.length nc, .slice uo h.upF.length uc, .slice ul h.up.length ulc, .slice wo h.dnF.length wc, .slice dl h.dn.length dlc] 25) ∧ wx.heap[z + 1]? = some (.cells #[.int .i64 0, .slice none 0 0] 35) ∧ HasH wx ⟨no, uo, ul, wo, dl, nc, uc, ulc, wc, dlc⟩ h ∧ Below w.heap.size w wx) ∧ HasRk wx (.slice mo (stds h).length mc) h ∧ wx.heap[y]? = some (.cells #[.int .i64 0, .int .i64 0, .int .i64 0] 100)) := fun wx hx => by
              have gx := btrH' hg3 (btrH' hb3 hx)
              exact ⟨(Gv2.out wx gx).1, (Gv2.out wx gx).2, (hx.block _ (some_lt hyb)).trans hyb⟩
            refine hK.out _ _ (HSS.out _ (Gv3.out _ (Below.refl _ _)).1.2.2.1) ?_
            clear hK K hf3 hg3 hb3 hyb hy
            try simp only [Act.put, List.setIfInBounds_toArray, List.set_cons_zero, List.set_cons_succ]
            refine readyM (i := 6) (o := { dst := Option.none, op := Op.store 100 (Operand.tmp 8) (Operand.tmp 32), type := 0, pos := "ref.go:147", after := #[{ on := 5, ground := Ground.data }, { on := 4, ground := Ground.data }, { on := 4, ground := Ground.chain }, { on := 0, ground := Ground.phase }, { on := 1, ground := Ground.phase }, { on := 2, ground := Ground.phase }, { on := 3, ground := Ground.phase }, { on := 4, ground := Ground.phase }, { on := 5, ground := Ground.phase }], guard := Option.none }) rfl (by kernel_rfl) ?_
            intro u4 hg4 hS4 K hK
            obtain ⟨⟨g1, g2, g3, g4, g5, g6⟩, _, g7⟩ := Gv3.out u4 hg4
            obtain ⟨⟨d0, d1, d2⟩, f0, f1, f2⟩ := tri_cells g7
            have HT : Hid ((((u4.setCell ⟨y, 0, none⟩ (.int .i64 (tl : Int))).setCell ⟨y, 1, none⟩ (.int .i64 (hv : Int))).setCell ⟨y, 2, none⟩ (.int .i64 (rk : Int))).heap[z]? = some (.cells #[.slice no h.node.length nc, .slice uo h.upF.length uc, .slice ul h.up.length ulc, .slice wo h.dnF.length wc, .slice dl h.dn.length dlc] 25) ∧ ((((u4.setCell ⟨y, 0, none⟩ (.int .i64 (tl : Int))).setCell ⟨y, 1, none⟩ (.int .i64 (hv : Int))).setCell ⟨y, 2, none⟩ (.int .i64 (rk : Int))).heap[y]? = some (.cells #[.int .i64 (tl : Int), .int .i64 (hv : Int), .int .i64 (rk : Int)] 100) ∧ (((u4.setCell ⟨y, 0, none⟩ (.int .i64 (tl : Int))).setCell ⟨y, 1, none⟩ (.int .i64 (hv : Int))).setCell ⟨y, 2, none⟩ (.int .i64 (rk : Int))).heap[q]? = some (.cells #[.int .i64 E.1, .slice lo E.2.length lc] 35)) ∧ HasPlaces (((u4.setCell ⟨y, 0, none⟩ (.int .i64 (tl : Int))).setCell ⟨y, 1, none⟩ (.int .i64 (hv : Int))).setCell ⟨y, 2, none⟩ (.int .i64 (rk : Int))) (.slice lo E.2.length lc) E.2 ∧ (((u4.setCell ⟨y, 0, none⟩ (.int .i64 (tl : Int))).setCell ⟨y, 1, none⟩ (.int .i64 (hv : Int))).setCell ⟨y, 2, none⟩ (.int .i64 (rk : Int))).heap[z + 1]? = some (.cells #[.int .i64 0, .slice none 0 0] 35) ∧ Below w.heap.size w (((u4.setCell ⟨y, 0, none⟩ (.int .i64 (tl : Int))).setCell ⟨y, 1, none⟩ (.int .i64 (hv : Int))).setCell ⟨y, 2, none⟩ (.int .i64 (rk : Int)))) := by
              have far : ∀ k, k ≠ y → (((u4.setCell ⟨y, 0, none⟩ (.int .i64 (tl : Int))).setCell ⟨y, 1, none⟩ (.int .i64 (hv : Int))).setCell ⟨y, 2, none⟩ (.int .i64 (rk : Int))).heap[k]? = u4.heap[k]? := fun k hk => (Below.heap_setCell _ _ _ _ (by exact hk)).trans ((Below.heap_setCell _ _ _ _ (by exact hk)).trans (Below.heap_setCell _ _ _ _ (by exact hk)))
              exact ⟨(far z (by exact HYQ.out.2.symm)).trans g3, ⟨set_three g7 _ _ _, (far q (by exact HYQ.out.1.symm)).trans g1⟩, pl_set3 _ _ _ HE0.out g2, (far (z + 1) (by exact HYY.out.symm)).trans g4, ((g6.setCell (p := ⟨y, 0, none⟩) HYW.out _).setCell (p := ⟨y, 1, none⟩) HYW.out _).setCell (p := ⟨y, 2, none⟩) HYW.out _⟩
            clear hS4 g1 g2 g3 g4 g5 g6 g7 hg4
            go_simp
            refine hK.out _ _ (HSS.out _ HT.out.1) ?_
            clear hK K d0 d1 d2 f0 f1 f2
            try simp only [Act.put, List.setIfInBounds_toArray, List.set_cons_zero, List.set_cons_succ]
            generalize (((u4.setCell ⟨y, 0, none⟩ (.int .i64 (tl : Int))).setCell ⟨y, 1, none⟩ (.int .i64 (hv : Int))).setCell ⟨y, 2, none⟩ (.int .i64 (rk : Int))) = W8 at HT ⊢
            refine wpAnyM_done (by kernel_rfl) ?_ _
            intro u8 hg8 hS8
            have HG : Hid (∀ wx, Below u8.heap.size u8 wx → (wx.heap[y]? = some (.cells #[.int .i64 (tl : Int), .int .i64 (hv : Int), .int .i64 (rk : Int)] 100) ∧ wx.heap[q]? = some (.cells #[.int .i64 E.1, .slice lo E.2.length lc] 35)) ∧ HasPlaces wx (.slice lo E.2.length lc) E.2 ∧ wx.heap[z + 1]? = some (.cells #[.int .i64 0, .slice none 0 0] 35) ∧ Below w.heap.size w wx) := fun wx hx => by
              have gx := btrH' hg8 hx
              exact ⟨⟨(Below.block gx _ (some_lt HT.out.2.1.1)).trans HT.out.2.1.1, (Below.block gx _ (some_lt HT.out.2.1.2)).trans HT.out.2.1.2⟩, HT.out.2.2.1.keep gx, (Below.block gx _ (some_lt HT.out.2.2.2.1)).trans HT.out.2.2.2.1, HT.out.2.2.2.2.trans (gx.mono HT.out.2.2.2.2.size)⟩
            clear hS8 hg8 HT Gv3
            go_wp2_with fail
            have HS7 : Hid (∀ wx : World, (wx.heap[y]? = some (.cells #[.int .i64 (tl : Int), .int .i64 (hv : Int), .int .i64 (rk : Int)] 100) ∧ wx.heap[q]? = some (.cells #[.int .i64 E.1, .slice lo E.2.length lc] 35)) → (fun w' => w'.cell? ⟨y, 0, none⟩ = some (.int .i64 (tl : Int)) ∧ w'.cell? ⟨y, 1, none⟩ = some (.int .i64 (hv : Int)) ∧ w'.cell? ⟨q, 0, none⟩ = some (.int .i64 E.1) ∧ w'.cell? ⟨q, 1, none⟩ = some (.slice lo E.2.length lc) ∧ Hid (w'.heap[y]? = some (.cells #[.int .i64 (tl : Int), .int .i64 (hv : Int), .int .i64 (rk : Int)] 100) ∧ w'.heap[q]? = some (.cells #[.int .i64 E.1, .slice lo E.2.length lc] 35))) wx) := fun wx hx => by
              obtain ⟨⟨a0, a1, _⟩, _⟩ := tri_cells hx.1
              obtain ⟨b0, b1, _, _⟩ := cell_two hx.2
              exact ⟨a0, a1, b0, b1, hx⟩
            refine wp_region_M (S := (fun w' => w'.cell? ⟨y, 0, none⟩ = some (.int .i64 (tl : Int)) ∧ w'.cell? ⟨y, 1, none⟩ = some (.int .i64 (hv : Int)) ∧ w'.cell? ⟨q, 0, none⟩ = some (.int .i64 E.1) ∧ w'.cell? ⟨q, 1, none⟩ = some (.slice lo E.2.length lc) ∧ Hid (w'.heap[y]? = some (.cells #[.int .i64 (tl : Int), .int .i64 (hv : Int), .int .i64 (rk : Int)] 100) ∧ w'.heap[q]? = some (.cells #[.int .i64 E.1, .slice lo E.2.length lc] 35)))) (by kernel_rfl) (HS7.out _ (HG.out _ (Below.refl _ _).drew).1) ?_
            refine wpAnyM_take (i := 0) (oi := { dst := Option.some 33, op := Op.fieldAddr 100 (Operand.tmp 8) 0, type := 0, pos := "ref.go:148", after := #[], guard := Option.none }) (v := ?vs413z0) rfl (by kernel_rfl) (by kernel_rfl) (by kernel_rfl) (fun _ _ _ h => h) (YieldsM.of_if (Or.inl ⟨by rfl, ?hs413z0⟩)) ?rs413z0
            case hs413z0 => ((intro wz hSw; (try dsimp only at hSw); go_simp); try (with_reducible rfl))
            try simp only [Act.put, List.setIfInBounds_toArray, List.set_cons_zero, List.set_cons_succ]
            refine wpAnyM_take (i := 1) (oi := { dst := Option.some 34, op := Op.load 3 (Operand.tmp 33), type := 3, pos := "ref.go:148", after := #[{ on := 0, ground := Ground.data }], guard := Option.none }) (v := ?vs414z1) rfl (by kernel_rfl) (by kernel_rfl) (by kernel_rfl) (fun _ _ _ h => h) (YieldsM.of_if (Or.inl ⟨by rfl, ?hs414z1⟩)) ?rs414z1
            case hs414z1 => ((intro wz hSw; (try dsimp only at hSw); go_simp); try (with_reducible rfl))
            try simp only [Act.put, List.setIfInBounds_toArray, List.set_cons_zero, List.set_cons_succ]
            refine wpAnyM_take (i := 2) (oi := { dst := Option.some 35, op := Op.fieldAddr 100 (Operand.tmp 8) 1, type := 0, pos := "ref.go:148", after := #[{ on := 5, ground := Ground.gcOnly Departure.lateStores }], guard := Option.none }) (v := ?vs415z2) rfl (by kernel_rfl) (by kernel_rfl) (by kernel_rfl) (fun _ _ _ h => h) (YieldsM.of_if (Or.inl ⟨by rfl, ?hs415z2⟩)) ?rs415z2
            case hs415z2 => ((intro wz hSw; (try dsimp only at hSw); go_simp); try (with_reducible rfl))
            try simp only [Act.put, List.setIfInBounds_toArray, List.set_cons_zero, List.set_cons_succ]
            refine wpAnyM_take (i := 3) (oi := { dst := Option.some 36, op := Op.load 3 (Operand.tmp 35), type := 3, pos := "ref.go:148", after := #[{ on := 2, ground := Ground.data }, { on := 5, ground := Ground.gcOnly Departure.lateStores }], guard := Option.none }) (v := ?vs416z3) rfl (by kernel_rfl) (by kernel_rfl) (by kernel_rfl) (fun _ _ _ h => h) (YieldsM.of_if (Or.inl ⟨by rfl, ?hs416z3⟩)) ?rs416z3
            case hs416z3 => ((intro wz hSw; (try dsimp only at hSw); go_simp); try (with_reducible rfl))
            try simp only [Act.put, List.setIfInBounds_toArray, List.set_cons_zero, List.set_cons_succ]
            refine wpAnyM_take (i := 4) (oi := { dst := Option.some 37, op := Op.load 35 (Operand.tmp 7), type := 35, pos := "ref.go:148", after := #[{ on := 6, ground := Ground.gcOnly Departure.lateStores }], guard := Option.none }) (v := ?vs417z4) rfl (by kernel_rfl) (by kernel_rfl) (by kernel_rfl) (fun _ _ _ h => h) (YieldsM.of_if (Or.inl ⟨by rfl, ?hs417z4⟩)) ?rs417z4
            case hs417z4 => ((intro wz hSw; (try dsimp only at hSw); go_simp); try (with_reducible rfl))
            try simp only [Act.put, List.setIfInBounds_toArray, List.set_cons_zero, List.set_cons_succ]
            refine wpAnyM_take (i := 5) (oi := { dst := Option.some 4, op := Op.assign (Operand.tmp 34), type := 3, pos := "ref.go:148", after := #[{ on := 1, ground := Ground.data }, { on := 0, ground := Ground.phase }, { on := 1, ground := Ground.phase }, { on := 2, ground := Ground.textOnly Departure.lateStores }, { on := 3, ground := Ground.textOnly Departure.lateStores }, { on := 4, ground := Ground.textOnly Departure.lateStores }], guard := Option.none }) (v := ?vs418z5) rfl (by kernel_rfl) (by kernel_rfl) (by kernel_rfl) (fun _ _ _ h => h) (YieldsM.of_if (Or.inl ⟨by rfl, ?hs418z5⟩)) ?rs418z5
            case hs418z5 => ((intro wz hSw; (try dsimp only at hSw); go_simp); try (with_reducible rfl))
            try simp only [Act.put, List.setIfInBounds_toArray, List.set_cons_zero, List.set_cons_succ]
            refine wpAnyM_take (i := 6) (oi := { dst := Option.some 5, op := Op.assign (Operand.tmp 36), type := 3, pos := "ref.go:148", after := #[{ on := 3, ground := Ground.data }, { on := 5, ground := Ground.chain }, { on := 0, ground := Ground.phase }, { on := 1, ground := Ground.phase }, { on := 2, ground := Ground.phase }, { on := 3, ground := Ground.phase }, { on := 4, ground := Ground.textOnly Departure.lateStores }, { on := 5, ground := Ground.phase }], guard := Option.none }) (v := ?vs419z6) rfl (by kernel_rfl) (by kernel_rfl) (by kernel_rfl) (fun _ _ _ h => h) (YieldsM.of_if (Or.inl ⟨by rfl, ?hs419z6⟩)) ?rs419z6
            case hs419z6 => ((intro wz hSw; (try dsimp only at hSw); go_simp); try (with_reducible rfl))
            try simp only [Act.put, List.setIfInBounds_toArray, List.set_cons_zero, List.set_cons_succ]
            refine readyM (i := 7) (o := { dst := Option.none, op := Op.store 35 (Operand.tmp 6) (Operand.tmp 37), type := 0, pos := "ref.go:148", after := #[{ on := 4, ground := Ground.data }, { on := 6, ground := Ground.chain }, { on := 0, ground := Ground.phase }, { on := 1, ground := Ground.phase }, { on := 2, ground := Ground.phase }, { on := 3, ground := Ground.phase }, { on := 4, ground := Ground.phase }, { on := 5, ground := Ground.phase }, { on := 6, ground := Ground.phase }], guard := Option.none }) rfl (by kernel_rfl) ?_
            intro u1 hg1 hS1 K hK
            obtain ⟨⟨g0, g1⟩, g2, g4, g5⟩ := HG.out u1 (btrH' (Below.refl _ _).drew hg1)
            obtain ⟨d0, d1, f0, f1⟩ := cell_two g4
            have HT : Hid (((u1.setCell ⟨z + 1, 0, none⟩ (.int .i64 E.1)).setCell ⟨z + 1, 1, none⟩ (.slice lo E.2.length lc)).heap[z + 1]? = some (.cells #[.int .i64 E.1, .slice lo E.2.length lc] 35) ∧ (((u1.setCell ⟨z + 1, 0, none⟩ (.int .i64 E.1)).setCell ⟨z + 1, 1, none⟩ (.slice lo E.2.length lc)).heap[y]? = some (.cells #[.int .i64 (tl : Int), .int .i64 (hv : Int), .int .i64 (rk : Int)] 100) ∧ ((u1.setCell ⟨z + 1, 0, none⟩ (.int .i64 E.1)).setCell ⟨z + 1, 1, none⟩ (.slice lo E.2.length lc)).heap[q]? = some (.cells #[.int .i64 E.1, .slice lo E.2.length lc] 35)) ∧ HasPlaces ((u1.setCell ⟨z + 1, 0, none⟩ (.int .i64 E.1)).setCell ⟨z + 1, 1, none⟩ (.slice lo E.2.length lc)) (.slice lo E.2.length lc) E.2 ∧ Below w.heap.size w ((u1.setCell ⟨z + 1, 0, none⟩ (.int .i64 E.1)).setCell ⟨z + 1, 1, none⟩ (.slice lo E.2.length lc))) := ⟨set_err g4 _ _, ⟨(Below.heap_setCell _ _ _ _ (by exact HYY.out)).trans ((Below.heap_setCell _ _ _ _ (by exact HYY.out)).trans g0), (Below.heap_setCell _ _ _ _ (by exact HQQ.out)).trans ((Below.heap_setCell _ _ _ _ (by exact HQQ.out)).trans g1)⟩, pl_sets (F := E) g4 g2 _ _, HSZ.out _ _ _ g5⟩
            clear hS1 g0 g1 g2 g4 g5 hg1
            go_simp
            refine hK.out _ _ (HS7.out _ HT.out.2.1) ?_
            clear hK K d0 d1 f0 f1
            try simp only [Act.put, List.setIfInBounds_toArray, List.set_cons_zero, List.set_cons_succ]
            generalize ((u1.setCell ⟨z + 1, 0, none⟩ (.int .i64 E.1)).setCell ⟨z + 1, 1, none⟩ (.slice lo E.2.length lc)) = U2 at HT ⊢
            refine wpAnyM_done (by kernel_rfl) ?_ _
            intro u9 hg9 hS9
            have H9 : Hid (u9.heap[z + 1]? = some (.cells #[.int .i64 E.1, .slice lo E.2.length lc] 35) ∧ HasPlaces u9 (.slice lo E.2.length lc) E.2 ∧ Below w.heap.size w u9) := ⟨(Below.block hg9 _ (some_lt HT.out.1)).trans HT.out.1, HT.out.2.2.1.keep hg9, HT.out.2.2.2.trans (hg9.mono HT.out.2.2.2.size)⟩
            clear hS9 hg9 HT
            go_wp2
            exact bodyPost_ret (docEnds_res H9.out.1 rfl rfl rfl) rfl (de_of (E := E) HAN.out H9.out.2.1 H9.out.2.2)
          · intro u5 hg5 hS5 K hK
            have hf5 := Gv1.out u5 hg5
            clear hS5
            obtain ⟨y, hy⟩ : ∃ y, u5.heap.size = y := ⟨_, rfl⟩
            obtain ⟨v5, hn5⟩ : ∃ v, u5.alloc (.cells #[.int .i64 0, .int .i64 0, .int .i64 0] 100) = v := ⟨_, rfl⟩
            have HN5 : Hid (u5.alloc (.cells #[.int .i64 0, .int .i64 0, .int .i64 0] 100) = v5) := hn5
            have hb5 : Below u5.heap.size u5 v5 := by rw [← hn5]; exact (Below.refl _ _).alloc (Nat.le_refl _) _
            have hyb : v5.heap[y]? = some (.cells #[.int .i64 0, .int .i64 0, .int .i64 0] 100) := by rw [← hn5, ← hy]; exact heap_newW _ _
            have HYY : Hid (y ≠ z + 1) := by have := some_lt hf5.1.2.2.2.1; show y ≠ z + 1; omega
            have HYQ : Hid (y ≠ q ∧ y ≠ z) := by have := some_lt hf5.1.1; have := some_lt hf5.1.2.2.1; show y ≠ q ∧ y ≠ z; omega
            have HYW : Hid (w.heap.size ≤ y) := by have := Below.size hf5.1.2.2.2.2.2; show _ ≤ y; omega
            go_simp
            try rw [HN5.out]
            try rw [hy]
            clear HN5 hn5
            have Gv5 : Hid (∀ wx, Below v5.heap.size v5 wx → (wx.heap[q]? = some (.cells #[.int .i64 E.1, .slice lo E.2.length lc] 35) ∧ HasPlaces wx (.slice lo E.2.length lc) E.2 ∧ wx.heap[z]? = some (.cells #[.slice no h.node.length nc, .slice uo h.upF.length uc, .slice ul h.up.length ulc, .slice wo h.dnF.length wc, .slice dl h.dn.length dlc] 25) ∧ wx.heap[z + 1]? = some (.cells #[.int .i64 0, .slice none 0 0] 35) ∧ HasH wx ⟨no, uo, ul, wo, dl, nc, uc, ulc, wc, dlc⟩ h ∧ Below w.heap.size w wx) ∧ HasRk wx (.slice mo (stds h).length mc) h ∧ wx.heap[y]? = some (.cells #[.int .i64 0, .int .i64 0, .int .i64 0] 100)) := fun wx hx => by
              have gx := btrH' hg5 (btrH' hb5 hx)
              exact ⟨(Gv1.out wx gx).1, (Gv1.out wx gx).2, (hx.block _ (some_lt hyb)).trans hyb⟩
            refine hK.out _ _ (HSS.out _ (Gv5.out _ (Below.refl _ _)).1.2.2.1) ?_
            clear hK K hf5 hg5 hb5 hyb hy
            try simp only [Act.put, List.setIfInBounds_toArray, List.set_cons_zero, List.set_cons_succ]
            refine readyM (i := 4) (o := { dst := Option.some 32, op := Op.call { callee := Callee.value (Operand.func 41), args := #[Operand.tmp 28, Operand.tmp 30, Operand.tmp 31], argTypes := #[25, 49, 3] }, type := 100, pos := "ref.go:147", after := #[{ on := 0, ground := Ground.data }, { on := 2, ground := Ground.data }, { on := 3, ground := Ground.data }, { on := 2, ground := Ground.chain }], guard := Option.none }) rfl (by kernel_rfl) ?_
            intro u6 hg6 hS6 K hK
            have hf6 := Gv5.out u6 hg6
            clear hS6
            go_simp
            refine (HEO.out u6 mo mc hf6.1.2.2.2.2.1 hf6.2.1).mono ?_
            rintro e v6 ⟨rfl, hb6⟩
            go_wp2_with fail
            have Gv6 : Hid (∀ wx, Below v6.heap.size v6 wx → (wx.heap[q]? = some (.cells #[.int .i64 E.1, .slice lo E.2.length lc] 35) ∧ HasPlaces wx (.slice lo E.2.length lc) E.2 ∧ wx.heap[z]? = some (.cells #[.slice no h.node.length nc, .slice uo h.upF.length uc, .slice ul h.up.length ulc, .slice wo h.dnF.length wc, .slice dl h.dn.length dlc] 25) ∧ wx.heap[z + 1]? = some (.cells #[.int .i64 0, .slice none 0 0] 35) ∧ HasH wx ⟨no, uo, ul, wo, dl, nc, uc, ulc, wc, dlc⟩ h ∧ Below w.heap.size w wx) ∧ HasRk wx (.slice mo (stds h).length mc) h ∧ wx.heap[y]? = some (.cells #[.int .i64 0, .int .i64 0, .int .i64 0] 100)) := fun wx hx => by
              have gx := btrH' hg6 (btrH' hb6 hx)
              exact Gv5.out wx gx
            refine hK.out _ _ (HSS.out _ (Gv6.out _ (Below.refl _ _)).1.2.2.1) ?_
            clear hK K hf6 hg6 hb6
            try simp only [Act.put, List.setIfInBounds_toArray, List.set_cons_zero, List.set_cons_succ]
            refine readyM (i := 6) (o := { dst := Option.none, op := Op.store 100 (Operand.tmp 8) (Operand.tmp 32), type := 0, pos := "ref.go:147", after := #[{ on := 5, ground := Ground.data }, { on := 4, ground := Ground.data }, { on := 4, ground := Ground.chain }, { on := 0, ground := Ground.phase }, { on := 1, ground := Ground.phase }, { on := 2, ground := Ground.phase }, { on := 3, ground := Ground.phase }, { on := 4, ground := Ground.phase }, { on := 5, ground := Ground.phase }], guard := Option.none }) rfl (by kernel_rfl) ?_
            intro u7 hg7 hS7 K hK
            obtain ⟨⟨g1, g2, g3, g4, g5, g6⟩, _, g7⟩ := Gv6.out u7 hg7
            obtain ⟨⟨d0, d1, d2⟩, f0, f1, f2⟩ := tri_cells g7
            have HT : Hid ((((u7.setCell ⟨y, 0, none⟩ (.int .i64 (tl : Int))).setCell ⟨y, 1, none⟩ (.int .i64 (hv : Int))).setCell ⟨y, 2, none⟩ (.int .i64 (rk : Int))).heap[z]? = some (.cells #[.slice no h.node.length nc, .slice uo h.upF.length uc, .slice ul h.up.length ulc, .slice wo h.dnF.length wc, .slice dl h.dn.length dlc] 25) ∧ ((((u7.setCell ⟨y, 0, none⟩ (.int .i64 (tl : Int))).setCell ⟨y, 1, none⟩ (.int .i64 (hv : Int))).setCell ⟨y, 2, none⟩ (.int .i64 (rk : Int))).heap[y]? = some (.cells #[.int .i64 (tl : Int), .int .i64 (hv : Int), .int .i64 (rk : Int)] 100) ∧ (((u7.setCell ⟨y, 0, none⟩ (.int .i64 (tl : Int))).setCell ⟨y, 1, none⟩ (.int .i64 (hv : Int))).setCell ⟨y, 2, none⟩ (.int .i64 (rk : Int))).heap[q]? = some (.cells #[.int .i64 E.1, .slice lo E.2.length lc] 35)) ∧ HasPlaces (((u7.setCell ⟨y, 0, none⟩ (.int .i64 (tl : Int))).setCell ⟨y, 1, none⟩ (.int .i64 (hv : Int))).setCell ⟨y, 2, none⟩ (.int .i64 (rk : Int))) (.slice lo E.2.length lc) E.2 ∧ (((u7.setCell ⟨y, 0, none⟩ (.int .i64 (tl : Int))).setCell ⟨y, 1, none⟩ (.int .i64 (hv : Int))).setCell ⟨y, 2, none⟩ (.int .i64 (rk : Int))).heap[z + 1]? = some (.cells #[.int .i64 0, .slice none 0 0] 35) ∧ Below w.heap.size w (((u7.setCell ⟨y, 0, none⟩ (.int .i64 (tl : Int))).setCell ⟨y, 1, none⟩ (.int .i64 (hv : Int))).setCell ⟨y, 2, none⟩ (.int .i64 (rk : Int)))) := by
              have far : ∀ k, k ≠ y → (((u7.setCell ⟨y, 0, none⟩ (.int .i64 (tl : Int))).setCell ⟨y, 1, none⟩ (.int .i64 (hv : Int))).setCell ⟨y, 2, none⟩ (.int .i64 (rk : Int))).heap[k]? = u7.heap[k]? := fun k hk => (Below.heap_setCell _ _ _ _ (by exact hk)).trans ((Below.heap_setCell _ _ _ _ (by exact hk)).trans (Below.heap_setCell _ _ _ _ (by exact hk)))
              exact ⟨(far z (by exact HYQ.out.2.symm)).trans g3, ⟨set_three g7 _ _ _, (far q (by exact HYQ.out.1.symm)).trans g1⟩, pl_set3 _ _ _ HE0.out g2, (far (z + 1) (by exact HYY.out.symm)).trans g4, ((g6.setCell (p := ⟨y, 0, none⟩) HYW.out _).setCell (p := ⟨y, 1, none⟩) HYW.out _).setCell (p := ⟨y, 2, none⟩) HYW.out _⟩
            clear hS7 g1 g2 g3 g4 g5 g6 g7 hg7
            go_simp
            refine hK.out _ _ (HSS.out _ HT.out.1) ?_
            clear hK K d0 d1 d2 f0 f1 f2
            try simp only [Act.put, List.setIfInBounds_toArray, List.set_cons_zero, List.set_cons_succ]
            generalize (((u7.setCell ⟨y, 0, none⟩ (.int .i64 (tl : Int))).setCell ⟨y, 1, none⟩ (.int .i64 (hv : Int))).setCell ⟨y, 2, none⟩ (.int .i64 (rk : Int))) = W8 at HT ⊢
            refine wpAnyM_done (by kernel_rfl) ?_ _
            intro u8 hg8 hS8
            have HG : Hid (∀ wx, Below u8.heap.size u8 wx → (wx.heap[y]? = some (.cells #[.int .i64 (tl : Int), .int .i64 (hv : Int), .int .i64 (rk : Int)] 100) ∧ wx.heap[q]? = some (.cells #[.int .i64 E.1, .slice lo E.2.length lc] 35)) ∧ HasPlaces wx (.slice lo E.2.length lc) E.2 ∧ wx.heap[z + 1]? = some (.cells #[.int .i64 0, .slice none 0 0] 35) ∧ Below w.heap.size w wx) := fun wx hx => by
              have gx := btrH' hg8 hx
              exact ⟨⟨(Below.block gx _ (some_lt HT.out.2.1.1)).trans HT.out.2.1.1, (Below.block gx _ (some_lt HT.out.2.1.2)).trans HT.out.2.1.2⟩, HT.out.2.2.1.keep gx, (Below.block gx _ (some_lt HT.out.2.2.2.1)).trans HT.out.2.2.2.1, HT.out.2.2.2.2.trans (gx.mono HT.out.2.2.2.2.size)⟩
            clear hS8 hg8 HT Gv6
            go_wp2_with fail
            have HS7 : Hid (∀ wx : World, (wx.heap[y]? = some (.cells #[.int .i64 (tl : Int), .int .i64 (hv : Int), .int .i64 (rk : Int)] 100) ∧ wx.heap[q]? = some (.cells #[.int .i64 E.1, .slice lo E.2.length lc] 35)) → (fun w' => w'.cell? ⟨y, 0, none⟩ = some (.int .i64 (tl : Int)) ∧ w'.cell? ⟨y, 1, none⟩ = some (.int .i64 (hv : Int)) ∧ w'.cell? ⟨q, 0, none⟩ = some (.int .i64 E.1) ∧ w'.cell? ⟨q, 1, none⟩ = some (.slice lo E.2.length lc) ∧ Hid (w'.heap[y]? = some (.cells #[.int .i64 (tl : Int), .int .i64 (hv : Int), .int .i64 (rk : Int)] 100) ∧ w'.heap[q]? = some (.cells #[.int .i64 E.1, .slice lo E.2.length lc] 35))) wx) := fun wx hx => by
              obtain ⟨⟨a0, a1, _⟩, _⟩ := tri_cells hx.1
              obtain ⟨b0, b1, _, _⟩ := cell_two hx.2
              exact ⟨a0, a1, b0, b1, hx⟩
            refine wp_region_M (S := (fun w' => w'.cell? ⟨y, 0, none⟩ = some (.int .i64 (tl : Int)) ∧ w'.cell? ⟨y, 1, none⟩ = some (.int .i64 (hv : Int)) ∧ w'.cell? ⟨q, 0, none⟩ = some (.int .i64 E.1) ∧ w'.cell? ⟨q, 1, none⟩ = some (.slice lo E.2.length lc) ∧ Hid (w'.heap[y]? = some (.cells #[.int .i64 (tl : Int), .int .i64 (hv : Int), .int .i64 (rk : Int)] 100) ∧ w'.heap[q]? = some (.cells #[.int .i64 E.1, .slice lo E.2.length lc] 35)))) (by kernel_rfl) (HS7.out _ (HG.out _ (Below.refl _ _).drew).1) ?_
            refine wpAnyM_take (i := 0) (oi := { dst := Option.some 33, op := Op.fieldAddr 100 (Operand.tmp 8) 0, type := 0, pos := "ref.go:148", after := #[], guard := Option.none }) (v := ?vs720z0) rfl (by kernel_rfl) (by kernel_rfl) (by kernel_rfl) (fun _ _ _ h => h) (YieldsM.of_if (Or.inl ⟨by rfl, ?hs720z0⟩)) ?rs720z0
            case hs720z0 => ((intro wz hSw; (try dsimp only at hSw); go_simp); try (with_reducible rfl))
            try simp only [Act.put, List.setIfInBounds_toArray, List.set_cons_zero, List.set_cons_succ]
            refine wpAnyM_take (i := 1) (oi := { dst := Option.some 34, op := Op.load 3 (Operand.tmp 33), type := 3, pos := "ref.go:148", after := #[{ on := 0, ground := Ground.data }], guard := Option.none }) (v := ?vs721z1) rfl (by kernel_rfl) (by kernel_rfl) (by kernel_rfl) (fun _ _ _ h => h) (YieldsM.of_if (Or.inl ⟨by rfl, ?hs721z1⟩)) ?rs721z1
            case hs721z1 => ((intro wz hSw; (try dsimp only at hSw); go_simp); try (with_reducible rfl))
            try simp only [Act.put, List.setIfInBounds_toArray, List.set_cons_zero, List.set_cons_succ]
            refine wpAnyM_take (i := 2) (oi := { dst := Option.some 35, op := Op.fieldAddr 100 (Operand.tmp 8) 1, type := 0, pos := "ref.go:148", after := #[{ on := 5, ground := Ground.gcOnly Departure.lateStores }], guard := Option.none }) (v := ?vs722z2) rfl (by kernel_rfl) (by kernel_rfl) (by kernel_rfl) (fun _ _ _ h => h) (YieldsM.of_if (Or.inl ⟨by rfl, ?hs722z2⟩)) ?rs722z2
            case hs722z2 => ((intro wz hSw; (try dsimp only at hSw); go_simp); try (with_reducible rfl))
            try simp only [Act.put, List.setIfInBounds_toArray, List.set_cons_zero, List.set_cons_succ]
            refine wpAnyM_take (i := 3) (oi := { dst := Option.some 36, op := Op.load 3 (Operand.tmp 35), type := 3, pos := "ref.go:148", after := #[{ on := 2, ground := Ground.data }, { on := 5, ground := Ground.gcOnly Departure.lateStores }], guard := Option.none }) (v := ?vs723z3) rfl (by kernel_rfl) (by kernel_rfl) (by kernel_rfl) (fun _ _ _ h => h) (YieldsM.of_if (Or.inl ⟨by rfl, ?hs723z3⟩)) ?rs723z3
            case hs723z3 => ((intro wz hSw; (try dsimp only at hSw); go_simp); try (with_reducible rfl))
            try simp only [Act.put, List.setIfInBounds_toArray, List.set_cons_zero, List.set_cons_succ]
            refine wpAnyM_take (i := 4) (oi := { dst := Option.some 37, op := Op.load 35 (Operand.tmp 7), type := 35, pos := "ref.go:148", after := #[{ on := 6, ground := Ground.gcOnly Departure.lateStores }], guard := Option.none }) (v := ?vs724z4) rfl (by kernel_rfl) (by kernel_rfl) (by kernel_rfl) (fun _ _ _ h => h) (YieldsM.of_if (Or.inl ⟨by rfl, ?hs724z4⟩)) ?rs724z4
            case hs724z4 => ((intro wz hSw; (try dsimp only at hSw); go_simp); try (with_reducible rfl))
            try simp only [Act.put, List.setIfInBounds_toArray, List.set_cons_zero, List.set_cons_succ]
            refine wpAnyM_take (i := 5) (oi := { dst := Option.some 4, op := Op.assign (Operand.tmp 34), type := 3, pos := "ref.go:148", after := #[{ on := 1, ground := Ground.data }, { on := 0, ground := Ground.phase }, { on := 1, ground := Ground.phase }, { on := 2, ground := Ground.textOnly Departure.lateStores }, { on := 3, ground := Ground.textOnly Departure.lateStores }, { on := 4, ground := Ground.textOnly Departure.lateStores }], guard := Option.none }) (v := ?vs725z5) rfl (by kernel_rfl) (by kernel_rfl) (by kernel_rfl) (fun _ _ _ h => h) (YieldsM.of_if (Or.inl ⟨by rfl, ?hs725z5⟩)) ?rs725z5
            case hs725z5 => ((intro wz hSw; (try dsimp only at hSw); go_simp); try (with_reducible rfl))
            try simp only [Act.put, List.setIfInBounds_toArray, List.set_cons_zero, List.set_cons_succ]
            refine wpAnyM_take (i := 6) (oi := { dst := Option.some 5, op := Op.assign (Operand.tmp 36), type := 3, pos := "ref.go:148", after := #[{ on := 3, ground := Ground.data }, { on := 5, ground := Ground.chain }, { on := 0, ground := Ground.phase }, { on := 1, ground := Ground.phase }, { on := 2, ground := Ground.phase }, { on := 3, ground := Ground.phase }, { on := 4, ground := Ground.textOnly Departure.lateStores }, { on := 5, ground := Ground.phase }], guard := Option.none }) (v := ?vs726z6) rfl (by kernel_rfl) (by kernel_rfl) (by kernel_rfl) (fun _ _ _ h => h) (YieldsM.of_if (Or.inl ⟨by rfl, ?hs726z6⟩)) ?rs726z6
            case hs726z6 => ((intro wz hSw; (try dsimp only at hSw); go_simp); try (with_reducible rfl))
            try simp only [Act.put, List.setIfInBounds_toArray, List.set_cons_zero, List.set_cons_succ]
            refine readyM (i := 7) (o := { dst := Option.none, op := Op.store 35 (Operand.tmp 6) (Operand.tmp 37), type := 0, pos := "ref.go:148", after := #[{ on := 4, ground := Ground.data }, { on := 6, ground := Ground.chain }, { on := 0, ground := Ground.phase }, { on := 1, ground := Ground.phase }, { on := 2, ground := Ground.phase }, { on := 3, ground := Ground.phase }, { on := 4, ground := Ground.phase }, { on := 5, ground := Ground.phase }, { on := 6, ground := Ground.phase }], guard := Option.none }) rfl (by kernel_rfl) ?_
            intro u1 hg1 hS1 K hK
            obtain ⟨⟨g0, g1⟩, g2, g4, g5⟩ := HG.out u1 (btrH' (Below.refl _ _).drew hg1)
            obtain ⟨d0, d1, f0, f1⟩ := cell_two g4
            have HT : Hid (((u1.setCell ⟨z + 1, 0, none⟩ (.int .i64 E.1)).setCell ⟨z + 1, 1, none⟩ (.slice lo E.2.length lc)).heap[z + 1]? = some (.cells #[.int .i64 E.1, .slice lo E.2.length lc] 35) ∧ (((u1.setCell ⟨z + 1, 0, none⟩ (.int .i64 E.1)).setCell ⟨z + 1, 1, none⟩ (.slice lo E.2.length lc)).heap[y]? = some (.cells #[.int .i64 (tl : Int), .int .i64 (hv : Int), .int .i64 (rk : Int)] 100) ∧ ((u1.setCell ⟨z + 1, 0, none⟩ (.int .i64 E.1)).setCell ⟨z + 1, 1, none⟩ (.slice lo E.2.length lc)).heap[q]? = some (.cells #[.int .i64 E.1, .slice lo E.2.length lc] 35)) ∧ HasPlaces ((u1.setCell ⟨z + 1, 0, none⟩ (.int .i64 E.1)).setCell ⟨z + 1, 1, none⟩ (.slice lo E.2.length lc)) (.slice lo E.2.length lc) E.2 ∧ Below w.heap.size w ((u1.setCell ⟨z + 1, 0, none⟩ (.int .i64 E.1)).setCell ⟨z + 1, 1, none⟩ (.slice lo E.2.length lc))) := ⟨set_err g4 _ _, ⟨(Below.heap_setCell _ _ _ _ (by exact HYY.out)).trans ((Below.heap_setCell _ _ _ _ (by exact HYY.out)).trans g0), (Below.heap_setCell _ _ _ _ (by exact HQQ.out)).trans ((Below.heap_setCell _ _ _ _ (by exact HQQ.out)).trans g1)⟩, pl_sets (F := E) g4 g2 _ _, HSZ.out _ _ _ g5⟩
            clear hS1 g0 g1 g2 g4 g5 hg1
            go_simp
            refine hK.out _ _ (HS7.out _ HT.out.2.1) ?_
            clear hK K d0 d1 f0 f1
            try simp only [Act.put, List.setIfInBounds_toArray, List.set_cons_zero, List.set_cons_succ]
            generalize ((u1.setCell ⟨z + 1, 0, none⟩ (.int .i64 E.1)).setCell ⟨z + 1, 1, none⟩ (.slice lo E.2.length lc)) = U2 at HT ⊢
            refine wpAnyM_done (by kernel_rfl) ?_ _
            intro u9 hg9 hS9
            have H9 : Hid (u9.heap[z + 1]? = some (.cells #[.int .i64 E.1, .slice lo E.2.length lc] 35) ∧ HasPlaces u9 (.slice lo E.2.length lc) E.2 ∧ Below w.heap.size w u9) := ⟨(Below.block hg9 _ (some_lt HT.out.1)).trans HT.out.1, HT.out.2.2.1.keep hg9, HT.out.2.2.2.trans (hg9.mono HT.out.2.2.2.size)⟩
            clear hS9 hg9 HT
            go_wp2
            exact bodyPost_ret (docEnds_res H9.out.1 rfl rfl rfl) rfl (de_of (E := E) HAN.out H9.out.2.1 H9.out.2.2)
        · intro u8 hg8 hS8 K hK
          have hf8 := Gw5.out u8 hg8
          clear hS8
          obtain ⟨y, hy⟩ : ∃ y, u8.heap.size = y := ⟨_, rfl⟩
          obtain ⟨v8, hn8⟩ : ∃ v, u8.alloc (.cells #[.int .i64 0, .int .i64 0, .int .i64 0] 100) = v := ⟨_, rfl⟩
          have HN8 : Hid (u8.alloc (.cells #[.int .i64 0, .int .i64 0, .int .i64 0] 100) = v8) := hn8
          have hb8 : Below u8.heap.size u8 v8 := by rw [← hn8]; exact (Below.refl _ _).alloc (Nat.le_refl _) _
          have hyb : v8.heap[y]? = some (.cells #[.int .i64 0, .int .i64 0, .int .i64 0] 100) := by rw [← hn8, ← hy]; exact heap_newW _ _
          have HYY : Hid (y ≠ z + 1) := by have := some_lt hf8.2.2.2.1; show y ≠ z + 1; omega
          have HYQ : Hid (y ≠ q ∧ y ≠ z) := by have := some_lt hf8.1; have := some_lt hf8.2.2.1; show y ≠ q ∧ y ≠ z; omega
          have HYW : Hid (w.heap.size ≤ y) := by have := Below.size hf8.2.2.2.2.2; show _ ≤ y; omega
          go_simp
          try rw [HN8.out]
          try rw [hy]
          clear HN8 hn8
          have Gv8 : Hid (∀ wx, Below v8.heap.size v8 wx → (wx.heap[q]? = some (.cells #[.int .i64 E.1, .slice lo E.2.length lc] 35) ∧ HasPlaces wx (.slice lo E.2.length lc) E.2 ∧ wx.heap[z]? = some (.cells #[.slice no h.node.length nc, .slice uo h.upF.length uc, .slice ul h.up.length ulc, .slice wo h.dnF.length wc, .slice dl h.dn.length dlc] 25) ∧ wx.heap[z + 1]? = some (.cells #[.int .i64 0, .slice none 0 0] 35) ∧ HasH wx ⟨no, uo, ul, wo, dl, nc, uc, ulc, wc, dlc⟩ h ∧ Below w.heap.size w wx) ∧ wx.heap[y]? = some (.cells #[.int .i64 0, .int .i64 0, .int .i64 0] 100)) := fun wx hx => by
            have gx := btrH' hg8 (btrH' hb8 hx)
            exact ⟨(Gw5.out wx gx), (hx.block _ (some_lt hyb)).trans hyb⟩
          refine hK.out _ _ (HSS.out _ (Gv8.out _ (Below.refl _ _)).1.2.2.1) ?_
          clear hK K hf8 hg8 hb8 hyb hy
          try simp only [Act.put, List.setIfInBounds_toArray, List.set_cons_zero, List.set_cons_succ]
          refine readyM (i := 2) (o := { dst := Option.some 30, op := Op.call { callee := Callee.value (Operand.func 36), args := #[Operand.tmp 29], argTypes := #[25] }, type := 49, pos := "ref.go:147", after := #[{ on := 1, ground := Ground.data }], guard := Option.none }) rfl (by kernel_rfl) ?_
          intro u9 hg9 hS9 K hK
          have hf9 := Gv8.out u9 hg9
          clear hS9
          go_simp
          refine (HRK.out u9 hf9.1.2.2.2.2.1).mono ?_
          rintro e v9 ⟨mo, mc, rfl, ho, hb9⟩
          have hrk := rk_of ho
          go_wp2_with fail
          have Gv9 : Hid (∀ wx, Below v9.heap.size v9 wx → (wx.heap[q]? = some (.cells #[.int .i64 E.1, .slice lo E.2.length lc] 35) ∧ HasPlaces wx (.slice lo E.2.length lc) E.2 ∧ wx.heap[z]? = some (.cells #[.slice no h.node.length nc, .slice uo h.upF.length uc, .slice ul h.up.length ulc, .slice wo h.dnF.length wc, .slice dl h.dn.length dlc] 25) ∧ wx.heap[z + 1]? = some (.cells #[.int .i64 0, .slice none 0 0] 35) ∧ HasH wx ⟨no, uo, ul, wo, dl, nc, uc, ulc, wc, dlc⟩ h ∧ Below w.heap.size w wx) ∧ HasRk wx (.slice mo (stds h).length mc) h ∧ wx.heap[y]? = some (.cells #[.int .i64 0, .int .i64 0, .int .i64 0] 100)) := fun wx hx => by
            have gx := btrH' hg9 (btrH' hb9 hx)
            exact ⟨(Gv8.out wx gx).1, hrk.keep hx, (Gv8.out wx gx).2⟩
          refine hK.out _ _ (HSS.out _ (Gv9.out _ (Below.refl _ _)).1.2.2.1) ?_
          clear hK K hf9 hg9 hb9 hrk ho
          try simp only [Act.put, List.setIfInBounds_toArray, List.set_cons_zero, List.set_cons_succ]
          refine readyM (i := 4) (o := { dst := Option.some 32, op := Op.call { callee := Callee.value (Operand.func 41), args := #[Operand.tmp 28, Operand.tmp 30, Operand.tmp 31], argTypes := #[25, 49, 3] }, type := 100, pos := "ref.go:147", after := #[{ on := 0, ground := Ground.data }, { on := 2, ground := Ground.data }, { on := 3, ground := Ground.data }, { on := 2, ground := Ground.chain }], guard := Option.none }) rfl (by kernel_rfl) ?_
          intro u10 hg10 hS10 K hK
          have hf10 := Gv9.out u10 hg10
          clear hS10
          go_simp
          refine (HEO.out u10 mo mc hf10.1.2.2.2.2.1 hf10.2.1).mono ?_
          rintro e v10 ⟨rfl, hb10⟩
          go_wp2_with fail
          have Gv10 : Hid (∀ wx, Below v10.heap.size v10 wx → (wx.heap[q]? = some (.cells #[.int .i64 E.1, .slice lo E.2.length lc] 35) ∧ HasPlaces wx (.slice lo E.2.length lc) E.2 ∧ wx.heap[z]? = some (.cells #[.slice no h.node.length nc, .slice uo h.upF.length uc, .slice ul h.up.length ulc, .slice wo h.dnF.length wc, .slice dl h.dn.length dlc] 25) ∧ wx.heap[z + 1]? = some (.cells #[.int .i64 0, .slice none 0 0] 35) ∧ HasH wx ⟨no, uo, ul, wo, dl, nc, uc, ulc, wc, dlc⟩ h ∧ Below w.heap.size w wx) ∧ HasRk wx (.slice mo (stds h).length mc) h ∧ wx.heap[y]? = some (.cells #[.int .i64 0, .int .i64 0, .int .i64 0] 100)) := fun wx hx => by
            have gx := btrH' hg10 (btrH' hb10 hx)
            exact Gv9.out wx gx
          refine hK.out _ _ (HSS.out _ (Gv10.out _ (Below.refl _ _)).1.2.2.1) ?_
          clear hK K hf10 hg10 hb10
          try simp only [Act.put, List.setIfInBounds_toArray, List.set_cons_zero, List.set_cons_succ]
          refine readyM (i := 6) (o := { dst := Option.none, op := Op.store 100 (Operand.tmp 8) (Operand.tmp 32), type := 0, pos := "ref.go:147", after := #[{ on := 5, ground := Ground.data }, { on := 4, ground := Ground.data }, { on := 4, ground := Ground.chain }, { on := 0, ground := Ground.phase }, { on := 1, ground := Ground.phase }, { on := 2, ground := Ground.phase }, { on := 3, ground := Ground.phase }, { on := 4, ground := Ground.phase }, { on := 5, ground := Ground.phase }], guard := Option.none }) rfl (by kernel_rfl) ?_
          intro u11 hg11 hS11 K hK
          obtain ⟨⟨g1, g2, g3, g4, g5, g6⟩, _, g7⟩ := Gv10.out u11 hg11
          obtain ⟨⟨d0, d1, d2⟩, f0, f1, f2⟩ := tri_cells g7
          have HT : Hid ((((u11.setCell ⟨y, 0, none⟩ (.int .i64 (tl : Int))).setCell ⟨y, 1, none⟩ (.int .i64 (hv : Int))).setCell ⟨y, 2, none⟩ (.int .i64 (rk : Int))).heap[z]? = some (.cells #[.slice no h.node.length nc, .slice uo h.upF.length uc, .slice ul h.up.length ulc, .slice wo h.dnF.length wc, .slice dl h.dn.length dlc] 25) ∧ ((((u11.setCell ⟨y, 0, none⟩ (.int .i64 (tl : Int))).setCell ⟨y, 1, none⟩ (.int .i64 (hv : Int))).setCell ⟨y, 2, none⟩ (.int .i64 (rk : Int))).heap[y]? = some (.cells #[.int .i64 (tl : Int), .int .i64 (hv : Int), .int .i64 (rk : Int)] 100) ∧ (((u11.setCell ⟨y, 0, none⟩ (.int .i64 (tl : Int))).setCell ⟨y, 1, none⟩ (.int .i64 (hv : Int))).setCell ⟨y, 2, none⟩ (.int .i64 (rk : Int))).heap[q]? = some (.cells #[.int .i64 E.1, .slice lo E.2.length lc] 35)) ∧ HasPlaces (((u11.setCell ⟨y, 0, none⟩ (.int .i64 (tl : Int))).setCell ⟨y, 1, none⟩ (.int .i64 (hv : Int))).setCell ⟨y, 2, none⟩ (.int .i64 (rk : Int))) (.slice lo E.2.length lc) E.2 ∧ (((u11.setCell ⟨y, 0, none⟩ (.int .i64 (tl : Int))).setCell ⟨y, 1, none⟩ (.int .i64 (hv : Int))).setCell ⟨y, 2, none⟩ (.int .i64 (rk : Int))).heap[z + 1]? = some (.cells #[.int .i64 0, .slice none 0 0] 35) ∧ Below w.heap.size w (((u11.setCell ⟨y, 0, none⟩ (.int .i64 (tl : Int))).setCell ⟨y, 1, none⟩ (.int .i64 (hv : Int))).setCell ⟨y, 2, none⟩ (.int .i64 (rk : Int)))) := by
            have far : ∀ k, k ≠ y → (((u11.setCell ⟨y, 0, none⟩ (.int .i64 (tl : Int))).setCell ⟨y, 1, none⟩ (.int .i64 (hv : Int))).setCell ⟨y, 2, none⟩ (.int .i64 (rk : Int))).heap[k]? = u11.heap[k]? := fun k hk => (Below.heap_setCell _ _ _ _ (by exact hk)).trans ((Below.heap_setCell _ _ _ _ (by exact hk)).trans (Below.heap_setCell _ _ _ _ (by exact hk)))
            exact ⟨(far z (by exact HYQ.out.2.symm)).trans g3, ⟨set_three g7 _ _ _, (far q (by exact HYQ.out.1.symm)).trans g1⟩, pl_set3 _ _ _ HE0.out g2, (far (z + 1) (by exact HYY.out.symm)).trans g4, ((g6.setCell (p := ⟨y, 0, none⟩) HYW.out _).setCell (p := ⟨y, 1, none⟩) HYW.out _).setCell (p := ⟨y, 2, none⟩) HYW.out _⟩
          clear hS11 g1 g2 g3 g4 g5 g6 g7 hg11
          go_simp
          refine hK.out _ _ (HSS.out _ HT.out.1) ?_
          clear hK K d0 d1 d2 f0 f1 f2
          try simp only [Act.put, List.setIfInBounds_toArray, List.set_cons_zero, List.set_cons_succ]
          generalize (((u11.setCell ⟨y, 0, none⟩ (.int .i64 (tl : Int))).setCell ⟨y, 1, none⟩ (.int .i64 (hv : Int))).setCell ⟨y, 2, none⟩ (.int .i64 (rk : Int))) = W8 at HT ⊢
          refine wpAnyM_done (by kernel_rfl) ?_ _
          intro u8 hg8 hS8
          have HG : Hid (∀ wx, Below u8.heap.size u8 wx → (wx.heap[y]? = some (.cells #[.int .i64 (tl : Int), .int .i64 (hv : Int), .int .i64 (rk : Int)] 100) ∧ wx.heap[q]? = some (.cells #[.int .i64 E.1, .slice lo E.2.length lc] 35)) ∧ HasPlaces wx (.slice lo E.2.length lc) E.2 ∧ wx.heap[z + 1]? = some (.cells #[.int .i64 0, .slice none 0 0] 35) ∧ Below w.heap.size w wx) := fun wx hx => by
            have gx := btrH' hg8 hx
            exact ⟨⟨(Below.block gx _ (some_lt HT.out.2.1.1)).trans HT.out.2.1.1, (Below.block gx _ (some_lt HT.out.2.1.2)).trans HT.out.2.1.2⟩, HT.out.2.2.1.keep gx, (Below.block gx _ (some_lt HT.out.2.2.2.1)).trans HT.out.2.2.2.1, HT.out.2.2.2.2.trans (gx.mono HT.out.2.2.2.2.size)⟩
          clear hS8 hg8 HT Gv10
          go_wp2_with fail
          have HS7 : Hid (∀ wx : World, (wx.heap[y]? = some (.cells #[.int .i64 (tl : Int), .int .i64 (hv : Int), .int .i64 (rk : Int)] 100) ∧ wx.heap[q]? = some (.cells #[.int .i64 E.1, .slice lo E.2.length lc] 35)) → (fun w' => w'.cell? ⟨y, 0, none⟩ = some (.int .i64 (tl : Int)) ∧ w'.cell? ⟨y, 1, none⟩ = some (.int .i64 (hv : Int)) ∧ w'.cell? ⟨q, 0, none⟩ = some (.int .i64 E.1) ∧ w'.cell? ⟨q, 1, none⟩ = some (.slice lo E.2.length lc) ∧ Hid (w'.heap[y]? = some (.cells #[.int .i64 (tl : Int), .int .i64 (hv : Int), .int .i64 (rk : Int)] 100) ∧ w'.heap[q]? = some (.cells #[.int .i64 E.1, .slice lo E.2.length lc] 35))) wx) := fun wx hx => by
            obtain ⟨⟨a0, a1, _⟩, _⟩ := tri_cells hx.1
            obtain ⟨b0, b1, _, _⟩ := cell_two hx.2
            exact ⟨a0, a1, b0, b1, hx⟩
          refine wp_region_M (S := (fun w' => w'.cell? ⟨y, 0, none⟩ = some (.int .i64 (tl : Int)) ∧ w'.cell? ⟨y, 1, none⟩ = some (.int .i64 (hv : Int)) ∧ w'.cell? ⟨q, 0, none⟩ = some (.int .i64 E.1) ∧ w'.cell? ⟨q, 1, none⟩ = some (.slice lo E.2.length lc) ∧ Hid (w'.heap[y]? = some (.cells #[.int .i64 (tl : Int), .int .i64 (hv : Int), .int .i64 (rk : Int)] 100) ∧ w'.heap[q]? = some (.cells #[.int .i64 E.1, .slice lo E.2.length lc] 35)))) (by kernel_rfl) (HS7.out _ (HG.out _ (Below.refl _ _).drew).1) ?_
          refine wpAnyM_take (i := 0) (oi := { dst := Option.some 33, op := Op.fieldAddr 100 (Operand.tmp 8) 0, type := 0, pos := "ref.go:148", after := #[], guard := Option.none }) (v := ?vs1127z0) rfl (by kernel_rfl) (by kernel_rfl) (by kernel_rfl) (fun _ _ _ h => h) (YieldsM.of_if (Or.inl ⟨by rfl, ?hs1127z0⟩)) ?rs1127z0
          case hs1127z0 => ((intro wz hSw; (try dsimp only at hSw); go_simp); try (with_reducible rfl))
          try simp only [Act.put, List.setIfInBounds_toArray, List.set_cons_zero, List.set_cons_succ]
          refine wpAnyM_take (i := 1) (oi := { dst := Option.some 34, op := Op.load 3 (Operand.tmp 33), type := 3, pos := "ref.go:148", after := #[{ on := 0, ground := Ground.data }], guard := Option.none }) (v := ?vs1128z1) rfl (by kernel_rfl) (by kernel_rfl) (by kernel_rfl) (fun _ _ _ h => h) (YieldsM.of_if (Or.inl ⟨by rfl, ?hs1128z1⟩)) ?rs1128z1
          case hs1128z1 => ((intro wz hSw; (try dsimp only at hSw); go_simp); try (with_reducible rfl))
          try simp only [Act.put, List.setIfInBounds_toArray, List.set_cons_zero, List.set_cons_succ]
          refine wpAnyM_take (i := 2) (oi := { dst := Option.some 35, op := Op.fieldAddr 100 (Operand.tmp 8) 1, type := 0, pos := "ref.go:148", after := #[{ on := 5, ground := Ground.gcOnly Departure.lateStores }], guard := Option.none }) (v := ?vs1129z2) rfl (by kernel_rfl) (by kernel_rfl) (by kernel_rfl) (fun _ _ _ h => h) (YieldsM.of_if (Or.inl ⟨by rfl, ?hs1129z2⟩)) ?rs1129z2
          case hs1129z2 => ((intro wz hSw; (try dsimp only at hSw); go_simp); try (with_reducible rfl))
          try simp only [Act.put, List.setIfInBounds_toArray, List.set_cons_zero, List.set_cons_succ]
          refine wpAnyM_take (i := 3) (oi := { dst := Option.some 36, op := Op.load 3 (Operand.tmp 35), type := 3, pos := "ref.go:148", after := #[{ on := 2, ground := Ground.data }, { on := 5, ground := Ground.gcOnly Departure.lateStores }], guard := Option.none }) (v := ?vs1130z3) rfl (by kernel_rfl) (by kernel_rfl) (by kernel_rfl) (fun _ _ _ h => h) (YieldsM.of_if (Or.inl ⟨by rfl, ?hs1130z3⟩)) ?rs1130z3
          case hs1130z3 => ((intro wz hSw; (try dsimp only at hSw); go_simp); try (with_reducible rfl))
          try simp only [Act.put, List.setIfInBounds_toArray, List.set_cons_zero, List.set_cons_succ]
          refine wpAnyM_take (i := 4) (oi := { dst := Option.some 37, op := Op.load 35 (Operand.tmp 7), type := 35, pos := "ref.go:148", after := #[{ on := 6, ground := Ground.gcOnly Departure.lateStores }], guard := Option.none }) (v := ?vs1131z4) rfl (by kernel_rfl) (by kernel_rfl) (by kernel_rfl) (fun _ _ _ h => h) (YieldsM.of_if (Or.inl ⟨by rfl, ?hs1131z4⟩)) ?rs1131z4
          case hs1131z4 => ((intro wz hSw; (try dsimp only at hSw); go_simp); try (with_reducible rfl))
          try simp only [Act.put, List.setIfInBounds_toArray, List.set_cons_zero, List.set_cons_succ]
          refine wpAnyM_take (i := 5) (oi := { dst := Option.some 4, op := Op.assign (Operand.tmp 34), type := 3, pos := "ref.go:148", after := #[{ on := 1, ground := Ground.data }, { on := 0, ground := Ground.phase }, { on := 1, ground := Ground.phase }, { on := 2, ground := Ground.textOnly Departure.lateStores }, { on := 3, ground := Ground.textOnly Departure.lateStores }, { on := 4, ground := Ground.textOnly Departure.lateStores }], guard := Option.none }) (v := ?vs1132z5) rfl (by kernel_rfl) (by kernel_rfl) (by kernel_rfl) (fun _ _ _ h => h) (YieldsM.of_if (Or.inl ⟨by rfl, ?hs1132z5⟩)) ?rs1132z5
          case hs1132z5 => ((intro wz hSw; (try dsimp only at hSw); go_simp); try (with_reducible rfl))
          try simp only [Act.put, List.setIfInBounds_toArray, List.set_cons_zero, List.set_cons_succ]
          refine wpAnyM_take (i := 6) (oi := { dst := Option.some 5, op := Op.assign (Operand.tmp 36), type := 3, pos := "ref.go:148", after := #[{ on := 3, ground := Ground.data }, { on := 5, ground := Ground.chain }, { on := 0, ground := Ground.phase }, { on := 1, ground := Ground.phase }, { on := 2, ground := Ground.phase }, { on := 3, ground := Ground.phase }, { on := 4, ground := Ground.textOnly Departure.lateStores }, { on := 5, ground := Ground.phase }], guard := Option.none }) (v := ?vs1133z6) rfl (by kernel_rfl) (by kernel_rfl) (by kernel_rfl) (fun _ _ _ h => h) (YieldsM.of_if (Or.inl ⟨by rfl, ?hs1133z6⟩)) ?rs1133z6
          case hs1133z6 => ((intro wz hSw; (try dsimp only at hSw); go_simp); try (with_reducible rfl))
          try simp only [Act.put, List.setIfInBounds_toArray, List.set_cons_zero, List.set_cons_succ]
          refine readyM (i := 7) (o := { dst := Option.none, op := Op.store 35 (Operand.tmp 6) (Operand.tmp 37), type := 0, pos := "ref.go:148", after := #[{ on := 4, ground := Ground.data }, { on := 6, ground := Ground.chain }, { on := 0, ground := Ground.phase }, { on := 1, ground := Ground.phase }, { on := 2, ground := Ground.phase }, { on := 3, ground := Ground.phase }, { on := 4, ground := Ground.phase }, { on := 5, ground := Ground.phase }, { on := 6, ground := Ground.phase }], guard := Option.none }) rfl (by kernel_rfl) ?_
          intro u1 hg1 hS1 K hK
          obtain ⟨⟨g0, g1⟩, g2, g4, g5⟩ := HG.out u1 (btrH' (Below.refl _ _).drew hg1)
          obtain ⟨d0, d1, f0, f1⟩ := cell_two g4
          have HT : Hid (((u1.setCell ⟨z + 1, 0, none⟩ (.int .i64 E.1)).setCell ⟨z + 1, 1, none⟩ (.slice lo E.2.length lc)).heap[z + 1]? = some (.cells #[.int .i64 E.1, .slice lo E.2.length lc] 35) ∧ (((u1.setCell ⟨z + 1, 0, none⟩ (.int .i64 E.1)).setCell ⟨z + 1, 1, none⟩ (.slice lo E.2.length lc)).heap[y]? = some (.cells #[.int .i64 (tl : Int), .int .i64 (hv : Int), .int .i64 (rk : Int)] 100) ∧ ((u1.setCell ⟨z + 1, 0, none⟩ (.int .i64 E.1)).setCell ⟨z + 1, 1, none⟩ (.slice lo E.2.length lc)).heap[q]? = some (.cells #[.int .i64 E.1, .slice lo E.2.length lc] 35)) ∧ HasPlaces ((u1.setCell ⟨z + 1, 0, none⟩ (.int .i64 E.1)).setCell ⟨z + 1, 1, none⟩ (.slice lo E.2.length lc)) (.slice lo E.2.length lc) E.2 ∧ Below w.heap.size w ((u1.setCell ⟨z + 1, 0, none⟩ (.int .i64 E.1)).setCell ⟨z + 1, 1, none⟩ (.slice lo E.2.length lc))) := ⟨set_err g4 _ _, ⟨(Below.heap_setCell _ _ _ _ (by exact HYY.out)).trans ((Below.heap_setCell _ _ _ _ (by exact HYY.out)).trans g0), (Below.heap_setCell _ _ _ _ (by exact HQQ.out)).trans ((Below.heap_setCell _ _ _ _ (by exact HQQ.out)).trans g1)⟩, pl_sets (F := E) g4 g2 _ _, HSZ.out _ _ _ g5⟩
          clear hS1 g0 g1 g2 g4 g5 hg1
          go_simp
          refine hK.out _ _ (HS7.out _ HT.out.2.1) ?_
          clear hK K d0 d1 f0 f1
          try simp only [Act.put, List.setIfInBounds_toArray, List.set_cons_zero, List.set_cons_succ]
          generalize ((u1.setCell ⟨z + 1, 0, none⟩ (.int .i64 E.1)).setCell ⟨z + 1, 1, none⟩ (.slice lo E.2.length lc)) = U2 at HT ⊢
          refine wpAnyM_done (by kernel_rfl) ?_ _
          intro u9 hg9 hS9
          have H9 : Hid (u9.heap[z + 1]? = some (.cells #[.int .i64 E.1, .slice lo E.2.length lc] 35) ∧ HasPlaces u9 (.slice lo E.2.length lc) E.2 ∧ Below w.heap.size w u9) := ⟨(Below.block hg9 _ (some_lt HT.out.1)).trans HT.out.1, HT.out.2.2.1.keep hg9, HT.out.2.2.2.trans (hg9.mono HT.out.2.2.2.size)⟩
          clear hS9 hg9 HT
          go_wp2
          exact bodyPost_ret (docEnds_res H9.out.1 rfl rfl rfl) rfl (de_of (E := E) HAN.out H9.out.2.1 H9.out.2.2)
  · have j1 : decide (E = (0, [])) = false := by simpa using hc
    have HAN : Hid (EAns h i = (0, 0, E)) := by rw [← HE.out]; exact eans_bad (by rw [HE.out]; exact hc)
    have HQQ : Hid (q ≠ z + 1) := by have := HS0.out; have := HQ0.out; show q ≠ z + 1; omega
    clear hc
    obtain ⟨q0, q1, _, _⟩ := cell_two (H2.out w3 HB3.out).1
    go_wp2_with fail
    refine (Hi.bad_calls E.1 lo E.2.length lc w3).mono ?_
    rintro e w4 ⟨rfl, hb⟩
    rw [bad_iff]
    have HB4 : Hid (Below w3.heap.size w3 w4) := hb
    clear hb q0 q1
    have HF4 : Hid (∀ wx, Below w4.heap.size w4 wx → wx.heap[q]? = some (.cells #[.int .i64 E.1, .slice lo E.2.length lc] 35) ∧ HasPlaces wx (.slice lo E.2.length lc) E.2 ∧ wx.heap[z + 1]? = some (.cells #[.int .i64 0, .slice none 0 0] 35) ∧ Below w.heap.size w wx) := fun wx hx => by
      obtain ⟨g1, g2, g3⟩ := H2.out wx (btrH' HB3.out (btrH' HB4.out hx))
      obtain ⟨_, a2, _, a4⟩ := HQ.out wx g3
      exact ⟨g1, g2, a2, a4⟩
    go_wp2_with fail
    have HSS : Hid (∀ wx : World, wx.heap[q]? = some (.cells #[.int .i64 E.1, .slice lo E.2.length lc] 35) → (fun w' => w'.cell? ⟨q, 0, none⟩ = some (.int .i64 E.1) ∧ w'.cell? ⟨q, 1, none⟩ = some (.slice lo E.2.length lc) ∧ Hid (w'.heap[q]? = some (.cells #[.int .i64 E.1, .slice lo E.2.length lc] 35))) wx) := fun wx hx => by
      obtain ⟨b0, b1, _, _⟩ := cell_two hx
      exact ⟨b0, b1, hx⟩
    refine wp_region_M (S := (fun w' => w'.cell? ⟨q, 0, none⟩ = some (.int .i64 E.1) ∧ w'.cell? ⟨q, 1, none⟩ = some (.slice lo E.2.length lc) ∧ Hid (w'.heap[q]? = some (.cells #[.int .i64 E.1, .slice lo E.2.length lc] 35)))) (by kernel_rfl) (HSS.out _ (HF4.out _ (Below.refl _ _).drew).1) ?_
    refine wpAnyM_take (i := 0) (oi := { dst := Option.some 27, op := Op.load 35 (Operand.tmp 7), type := 35, pos := "ref.go:145", after := #[{ on := 2, ground := Ground.gcOnly Departure.lateStores }], guard := Option.none }) (v := ?ve1z0) rfl (by kernel_rfl) (by kernel_rfl) (by kernel_rfl) (fun _ _ _ h => h) (YieldsM.of_if (Or.inl ⟨by rfl, ?he1z0⟩)) ?re1z0
    case he1z0 => ((intro wz hSw; (try dsimp only at hSw); go_simp); try (with_reducible rfl))
    try simp only [Act.put, List.setIfInBounds_toArray, List.set_cons_zero, List.set_cons_succ]
    refine wpAnyM_take (i := 1) (oi := { dst := Option.some 4, op := Op.assign (Operand.const (Value.int IntKind.i64 0)), type := 3, pos := "ref.go:145", after := #[{ on := 0, ground := Ground.textOnly Departure.lateStores }], guard := Option.none }) (v := ?ve2z1) rfl (by kernel_rfl) (by kernel_rfl) (by kernel_rfl) (fun _ _ _ h => h) (YieldsM.of_if (Or.inl ⟨by rfl, ?he2z1⟩)) ?re2z1
    case he2z1 => ((intro wz hSw; (try dsimp only at hSw); go_simp); try (with_reducible rfl))
    try simp only [Act.put, List.setIfInBounds_toArray, List.set_cons_zero, List.set_cons_succ]
    refine wpAnyM_take (i := 2) (oi := { dst := Option.some 5, op := Op.assign (Operand.const (Value.int IntKind.i64 0)), type := 3, pos := "ref.go:145", after := #[{ on := 1, ground := Ground.chain }, { on := 0, ground := Ground.textOnly Departure.lateStores }, { on := 1, ground := Ground.phase }], guard := Option.none }) (v := ?ve3z2) rfl (by kernel_rfl) (by kernel_rfl) (by kernel_rfl) (fun _ _ _ h => h) (YieldsM.of_if (Or.inl ⟨by rfl, ?he3z2⟩)) ?re3z2
    case he3z2 => ((intro wz hSw; (try dsimp only at hSw); go_simp); try (with_reducible rfl))
    try simp only [Act.put, List.setIfInBounds_toArray, List.set_cons_zero, List.set_cons_succ]
    refine readyM (i := 3) (o := { dst := Option.none, op := Op.store 35 (Operand.tmp 6) (Operand.tmp 27), type := 0, pos := "ref.go:145", after := #[{ on := 0, ground := Ground.data }, { on := 2, ground := Ground.chain }, { on := 0, ground := Ground.phase }, { on := 1, ground := Ground.phase }, { on := 2, ground := Ground.phase }], guard := Option.none }) rfl (by kernel_rfl) ?_
    intro u1 hg1 hS1 K hK
    obtain ⟨g1, g2, g4, g5⟩ := HF4.out u1 (btrH' (Below.refl _ _).drew hg1)
    obtain ⟨d0, d1, f0, f1⟩ := cell_two g4
    have HT : Hid (((u1.setCell ⟨z + 1, 0, none⟩ (.int .i64 E.1)).setCell ⟨z + 1, 1, none⟩ (.slice lo E.2.length lc)).heap[z + 1]? = some (.cells #[.int .i64 E.1, .slice lo E.2.length lc] 35) ∧ ((u1.setCell ⟨z + 1, 0, none⟩ (.int .i64 E.1)).setCell ⟨z + 1, 1, none⟩ (.slice lo E.2.length lc)).heap[q]? = some (.cells #[.int .i64 E.1, .slice lo E.2.length lc] 35) ∧ HasPlaces ((u1.setCell ⟨z + 1, 0, none⟩ (.int .i64 E.1)).setCell ⟨z + 1, 1, none⟩ (.slice lo E.2.length lc)) (.slice lo E.2.length lc) E.2 ∧ Below w.heap.size w ((u1.setCell ⟨z + 1, 0, none⟩ (.int .i64 E.1)).setCell ⟨z + 1, 1, none⟩ (.slice lo E.2.length lc))) := ⟨set_err g4 _ _, (Below.heap_setCell _ _ _ _ (by exact HQQ.out)).trans ((Below.heap_setCell _ _ _ _ (by exact HQQ.out)).trans g1), pl_sets (F := E) g4 g2 _ _, HSZ.out _ _ _ g5⟩
    clear hS1 g1 g2 g4 g5 hg1
    go_simp
    refine hK.out _ _ (HSS.out _ HT.out.2.1) ?_
    clear hK K d0 d1 f0 f1
    try simp only [Act.put, List.setIfInBounds_toArray, List.set_cons_zero, List.set_cons_succ]
    generalize ((u1.setCell ⟨z + 1, 0, none⟩ (.int .i64 E.1)).setCell ⟨z + 1, 1, none⟩ (.slice lo E.2.length lc)) = U2 at HT ⊢
    refine wpAnyM_done (by kernel_rfl) ?_ _
    intro u9 hg9 hS9
    have H9 : Hid (u9.heap[z + 1]? = some (.cells #[.int .i64 E.1, .slice lo E.2.length lc] 35) ∧ HasPlaces u9 (.slice lo E.2.length lc) E.2 ∧ Below w.heap.size w u9) := ⟨(Below.block hg9 _ (some_lt HT.out.1)).trans HT.out.1, HT.out.2.2.1.keep hg9, HT.out.2.2.2.trans (hg9.mono HT.out.2.2.2.size)⟩
    clear hS9 hg9 HT
    go_wp2
    exact bodyPost_ret (docEnds_res H9.out.1 rfl rfl rfl) rfl (de_of (E := E) HAN.out H9.out.2.1 H9.out.2.2)
theorem docEnds_calls (v : HV) (h : Hr) (i : Int) (w : World) (hH : HasH w v h) (hb1 : h.up.length ≤ 1152921504606846976) (hb2 : h.dn.length ≤ 1152921504606846976) (hb3 : h.node.length ≤ 1152921504606846976) :
    Calls Tryz.prog 11 #[hvl v h, .int .i64 i] w fun e w' => DE h i w e w' :=
  docEnds_aux v.no v.uo v.ul v.wo v.dl v.nc v.uc v.ulc v.wc v.dlc h i w hH hb1 hb2 hb3
end Go.Proofs.YtkehpmbnbknpfaaGreatDoor.Hi

namespace Go.Proofs.YtkehpmbnbknpfaaGreatDoor.Hi
open Go.RowKit Go.Extern Go.Sort Go.Shelf

attribute [local go_sem] Oper.semAt_some

/-- arcs that no two share their ends and none is a loop: sorted, they are the normal list. -/
theorem sortE_norm {L : List (Int × Int × Int)} (hd : L.Pairwise fun a b => ¬ sameA a b) (hl : ∀ a ∈ L, a.1 ≠ a.2.1) : normA L = sortE L := by
  refine (NormOf.unique (P := (· ∈ kept L)) ?_ (normA_norm _)).symm
  refine ⟨sortE_rise hd, fun x hx => ?_, fun y hy => ?_⟩
  · rw [kept_mem]
    exact ⟨sortE_mem.1 hx, hl x (sortE_mem.1 hx)⟩
  · exact ⟨y, sortE_mem.2 (kept_mem.1 hy).1, ⟨rfl, rfl⟩, Int.le_refl _⟩
theorem graph_norm {h : Hr} (hc : chk h = (0, [])) : normA (gArcs h (stds h)) = sortE (gArcs h (stds h)) := sortE_norm (garcs_apart hc) (fun _ ha => (garcs_good hc ha).2)
theorem gtake_yes {h : Hr} {k : Nat} (hk : k < (stds h).length) (hp : (sd (stds h) k).lk.plain = true) : gArcs h ((stds h).take (k + 1)) = gArcs h ((stds h).take k) ++ [arcOf h (sd (stds h) k)] := by
  rw [List.take_add_one, sd_get hk]
  show gArcs h (_ ++ [_]) = _
  rw [gArcs_snoc, if_pos hp]
theorem gtake_no {h : Hr} {k : Nat} (hk : k < (stds h).length) (hp : (sd (stds h) k).lk.plain = false) : gArcs h ((stds h).take (k + 1)) = gArcs h ((stds h).take k) := by
  rw [List.take_add_one, sd_get hk]
  show gArcs h (_ ++ [_]) = _
  rw [gArcs_snoc, if_neg (by rw [hp]; simp), List.append_nil]
theorem build_g (n : Int) (wx : World) : (Instr.build 43 #[(0, .int .i64 n)]).run Tryz.prog wx = .ok (.agg #[.int .i64 n, .slice none 0 0]) wx := by kernel_rfl
theorem build_arcV (a b c : Int) (wx : World) : (Instr.build 63 #[(0, .int .i64 a), (1, .int .i64 b), (2, .int .i64 c)]).run Tryz.prog wx = .ok (.agg #[.int .i64 a, .int .i64 b, .int .i64 c]) wx := by kernel_rfl
theorem build_arc1 (a b c : Int) (wx : World) : (Instr.buildSlice 41 1 #[(0, .agg #[.int .i64 a, .int .i64 b, .int .i64 c])]).run Tryz.prog wx = .ok (.slice (some ⟨wx.heap.size, 0, none⟩) 1 1) (wx.alloc (.cells #[.int .i64 a, .int .i64 b, .int .i64 c] 63)) := by kernel_rfl
theorem infoArcs : (Tryz.prog.info? 63).map (fun i => (i.zero, i.size, i.bytes)) = some (some (.agg #[.int .i64 0, .int .i64 0, .int .i64 0]), 3, 24) := by kernel_rfl
theorem cells_three {w : World} {g : Nat} {a0 a1 a2 : Value} {T : TypeId} (h : w.heap[g]? = some (.cells #[a0, a1, a2] T)) : ∀ j u, [a0, a1, a2][j]? = some u → w.cell? ((⟨g, 0, none⟩ : Addr).add j) = some u := fun j u hj => by
  have e : (⟨g, 0, none⟩ : Addr).add j = ⟨g, j, none⟩ := by
    by_cases h0 : j = 0
    · subst h0; rfl
    · simp [Addr.add, h0]
  rw [e]
  rcases j with _ | _ | _ | j
  · simp at hj; rw [← hj]; simp [World.cell?, h]
  · simp at hj; rw [← hj]; simp [World.cell?, h]
  · simp at hj; rw [← hj]; simp [World.cell?, h]
  · simp at hj
theorem set_snd {W : World} {b : Nat} {p q : Value} {T : TypeId} (h : W.heap[b]? = some (.cells #[p, q] T)) (y : Value) : (W.setCell ⟨b, 1, none⟩ y).heap[b]? = some (.cells #[p, y] T) := by
  have hlt := some_lt h
  simp only [World.setCell, Array.getElem?_modify]
  simp [h]
theorem arcs_own {w : World} {B : Nat} {v : Value} {L : List (Int × Int × Int)} {so : Option Addr} {sc : Nat} (hv : v = .slice so L.length sc) (h : w.ownsRow B 63 3 v L.length (flatA L)) : HasArcs w (.slice so L.length sc) L := by
  subst hv
  rcases h.2 with ⟨e, h0⟩ | ⟨g, cap, cur, e, hg, hh, hc, _⟩
  · have : L = [] := List.eq_nil_of_length_eq_zero h0
    subst this
    exact ⟨so, sc, rfl, fun j a hj => by simp at hj⟩
  · injection e with e1 _ e3
    subst e1
    refine ⟨_, sc, rfl, fun j a hj => ⟨g, 0, rfl, some_lt hh, ?_⟩⟩
    have hlt := (List.getElem?_eq_some_iff.1 hj).1
    have f0 := flatA_get L j a hj 0 (by omega)
    have f1 := flatA_get L j a hj 1 (by omega)
    have f2 := flatA_get L j a hj 2 (by omega)
    simp only [Nat.zero_add]
    exact ⟨(h.cellAt (j * 3) (by omega)).trans f0, (h.cellAt (j * 3 + 1) (by omega)).trans f1, (h.cellAt (j * 3 + 2) (by omega)).trans f2⟩
/-- while the plain links are gathered: z the argument, z + 1 the answer, z + 2 the graph under way. -/
structure GJ (w : World) (v : HV) (h : Hr) (z B : Nat) (mo : Option Addr) (mc : Nat) (L : List (Int × Int × Int)) (so : Option Addr) (sc : Nat) (W : World) : Prop where
  bx : W.heap[z]? = some (.cells (cellsH v h) 25)
  ax : W.heap[z + 1]? = some (.cells #[.int .i64 0, .slice none 0 0] 43)
  gx : W.heap[z + 2]? = some (.cells #[.int .i64 (h.node.length : Int), .slice so L.length sc] 43)
  es : HasEs W (.slice mo (stds h).length mc) h
  ow : W.ownsRow B 63 3 (.slice so L.length sc) L.length (flatA L)
  bl : Below w.heap.size w W
  sz : B ≤ W.heap.size
theorem GJ.keep {w : World} {v : HV} {h : Hr} {z B : Nat} {mo : Option Addr} {mc : Nat} {L : List (Int × Int × Int)} {so : Option Addr} {sc : Nat} {W W' : World} (g : GJ w v h z B mo mc L so sc W) (hb : Below W.heap.size W W') : GJ w v h z B mo mc L so sc W' :=
  ⟨(hb.block _ (some_lt g.bx)).trans g.bx, (hb.block _ (some_lt g.ax)).trans g.ax, (hb.block _ (some_lt g.gx)).trans g.gx, g.es.keep hb, own_upO g.ow hb, g.bl.trans (hb.mono g.bl.size), Nat.le_trans g.sz hb.size⟩
theorem GJ.step {w : World} {v : HV} {h : Hr} {z B : Nat} {mo : Option Addr} {mc : Nat} {L : List (Int × Int × Int)} {a : Int × Int × Int} {so po : Option Addr} {sc pc : Nat} {W W' : World} (hzB : z + 2 < B) (hwz : w.heap.size ≤ z) (g : GJ w v h z B mo mc L so sc W) (ho : W'.ownsRow B 63 3 (.slice po (L.length + 1) pc) (L.length + 1) (flatA L ++ encA a)) (hg : W.grownBy W' (Value.slice so L.length sc).ownBlock) :
    W'.heap[z + 2]? = some (.cells #[.int .i64 (h.node.length : Int), .slice so L.length sc] 43) ∧ GJ w v h z B mo mc (L ++ [a]) po pc (W'.setCell ⟨z + 2, 1, none⟩ (.slice po (L.length + 1) pc)) ∧ ∀ (k : Nat) (o : Obj), W.heap[k]? = some o → (∀ c, o ≠ .cells c 63) → W'.heap[k]? = some o := by
  have hblk : ∀ k, (Value.slice so L.length sc).ownBlock = some k → ∃ cur, W.heap[k]? = some (.cells cur 63) := fun k hk => by
    rcases g.ow.2 with ⟨e, _⟩ | ⟨b, cap, cur, e, _, hh, _⟩
    · rw [e] at hk; cases hk
    · rw [e] at hk; cases hk; exact ⟨cur, hh⟩
  have hother : ∀ (k : Nat) (o : Obj), W.heap[k]? = some o → (∀ c, o ≠ .cells c 63) → W'.heap[k]? = some o := fun k o hk hn => by
    refine (hg.block k (some_lt hk) (fun e => ?_)).trans hk
    obtain ⟨cur, hc⟩ := hblk k e.symm
    rw [hk] at hc
    cases hc
    exact hn cur rfl
  have far : ∀ k, k ≠ z + 2 → (W'.setCell ⟨z + 2, 1, none⟩ (.slice po (L.length + 1) pc)).heap[k]? = W'.heap[k]? := fun k hk => Below.heap_setCell _ _ _ _ (by exact hk)
  have hG := hother _ _ g.gx (fun c e => by cases e)
  have e1 : (L ++ [a]).length = L.length + 1 := by simp
  have e2 : flatA (L ++ [a]) = flatA L ++ encA a := by rw [flatA_append]; simp [flatA]
  have hbW : Below w.heap.size w W' := below_grown g.bl (own_lowO g.ow (by omega)) hg g.bl.size
  refine ⟨hG, ⟨?_, ?_, ?_, ?_, ?_, ?_, ?_⟩, hother⟩
  · exact (far z (by omega)).trans (hother _ _ g.bx (fun c e => by cases e))
  · exact (far (z + 1) (by omega)).trans (hother _ _ g.ax (fun c e => by cases e))
  · rw [e1]; exact set_snd hG _
  · refine g.es.far fun k cur hk => ?_
    have h1 := hother _ _ hk (fun c e => by cases e)
    refine (far k (fun e => ?_)).trans h1
    rw [e, g.gx] at hk
    cases hk
  · rw [e1, e2]
    refine own_keep ho fun k cur hk hh => (far k (fun e => ?_)).trans hh
    have := ho.lt k hk
    omega
  · exact hbW.setCell (p := ⟨z + 2, 1, none⟩) (by show w.heap.size ≤ z + 2; omega) _
  · have := hg.size
    have := g.sz
    simp [World.setCell]
    omega
theorem tri_at {w : World} {b : Nat} {c0 c1 c2 : Value} {T : TypeId} (h : w.heap[b]? = some (.cells #[c0, c1, c2] T)) : (w.cell? ⟨b, 0, none⟩ = some c0 ∧ w.cell? ⟨b, 1, none⟩ = some c1 ∧ w.cell? ⟨b, 2, none⟩ = some c2) ∧ w.frozen? ⟨b, 0, none⟩ = false ∧ w.frozen? ⟨b, 1, none⟩ = false ∧ w.frozen? ⟨b, 2, none⟩ = false := by simp [World.cell?, World.frozen?, h]
theorem gj_up {W W' : World} {b : Nat} {o : Obj} {p : Nat} {v : Value} (hb : Below W.heap.size W W') (_h : W.heap[b]? = some o) : Below (W.setCell ⟨b, p, none⟩ v).heap.size (W.setCell ⟨b, p, none⟩ v) (W'.setCell ⟨b, p, none⟩ v) := by
  refine ⟨hb.os, hb.tape, hb.output, by simpa [World.setCell] using hb.size, fun j hj => ?_⟩
  have hj' : j < W.heap.size := by simpa [World.setCell] using hj
  have e := hb.block j hj'
  simp only [World.setCell, Array.getElem?_modify, e]
theorem graphR_res {W : World} {z : Nat} {x0 x1 : Value} {tmps : Array Value} (h1 : W.heap[z]? = some (.cells #[x0, x1] 43)) (t2 : tmps[2]?.getD undef = .pointer (some ⟨z, 0, none⟩)) :
    (results Tryz.f47 tmps).run Tryz.prog W = .ok (.agg #[x0, x1]) W := by
  obtain ⟨c0, c1, _, _⟩ := cell_two h1
  simp [results, Tryz.results47, go_sem, t2, c0, c1]

set_option maxRecDepth 100000 in
set_option maxHeartbeats 8000000 in
theorem graphR_aux (no uo ul wo dl : Option Addr) (nc uc ulc wc dlc : Nat) (h : Hr) (w : World) (hH : HasH w ⟨no, uo, ul, wo, dl, nc, uc, ulc, wc, dlc⟩ h) (hc : chk h = (0, [])) (hm : (stds h).length ≤ 262144) :
    Calls Tryz.prog 47 #[hvl ⟨no, uo, ul, wo, dl, nc, uc, ulc, wc, dlc⟩ h] w fun e w' => ∃ lo lc, e = .returned (.agg #[.int .i64 (h.node.length : Int), .slice lo (normA (gArcs h (stds h))).length lc]) ∧ HasArcs w' (.slice lo (normA (gArcs h (stds h))).length lc) (normA (gArcs h (stds h))) ∧ NewA w.heap.size (.slice lo (normA (gArcs h (stds h))).length lc) ∧ Below w.heap.size w w' := by
  obtain ⟨k1, k2, k3, k4, k5, k6, k7, k8⟩ := chk_ok hc
  have hlen := stds_len k5 k6
  obtain ⟨z, hz⟩ : ∃ z, w.heap.size = z := ⟨_, rfl⟩
  obtain ⟨W0, hW0⟩ : ∃ W0, ((w.alloc (.cells #[.slice no h.node.length nc, .slice uo h.upF.length uc, .slice ul h.up.length ulc, .slice wo h.dnF.length wc, .slice dl h.dn.length dlc] 25)).alloc (.cells #[.int .i64 0, .slice none 0 0] 43)).alloc (.cells #[.int .i64 (h.node.length : Int), .slice none 0 0] 43) = W0 := ⟨_, rfl⟩
  have hB0 : Below w.heap.size w W0 := by rw [← hW0]; exact (((Below.refl _ w).alloc (Nat.le_refl _) _).alloc (by simp) _).alloc (by simp; omega) _
  have h0 : W0.heap[z]? = some (.cells #[.slice no h.node.length nc, .slice uo h.upF.length uc, .slice ul h.up.length ulc, .slice wo h.dnF.length wc, .slice dl h.dn.length dlc] 25) := by rw [← hW0, ← hz]; exact (Below.heap_alloc _ _ _ (by simp; omega)).trans ((Below.heap_alloc _ _ _ (by simp)).trans (heap_newW _ _))
  have h1 : W0.heap[z + 1]? = some (.cells #[.int .i64 0, .slice none 0 0] 43) := by
    have g := heap_newW (w.alloc (.cells #[.slice no h.node.length nc, .slice uo h.upF.length uc, .slice ul h.up.length ulc, .slice wo h.dnF.length wc, .slice dl h.dn.length dlc] 25)) (.cells #[.int .i64 0, .slice none 0 0] 43)
    rw [World.size_alloc, hz] at g
    rw [← hW0]
    exact (Below.heap_alloc _ _ _ (by rw [World.size_alloc, World.size_alloc, hz]; omega)).trans g
  have h2 : W0.heap[z + 2]? = some (.cells #[.int .i64 (h.node.length : Int), .slice none 0 0] 43) := by
    have g := heap_newW ((w.alloc (.cells #[.slice no h.node.length nc, .slice uo h.upF.length uc, .slice ul h.up.length ulc, .slice wo h.dnF.length wc, .slice dl h.dn.length dlc] 25)).alloc (.cells #[.int .i64 0, .slice none 0 0] 43)) (.cells #[.int .i64 (h.node.length : Int), .slice none 0 0] 43)
    rw [World.size_alloc, World.size_alloc, hW0, hz] at g
    exact g
  have HQ : Hid (∀ wx, Below W0.heap.size W0 wx → wx.heap[z]? = some (.cells #[.slice no h.node.length nc, .slice uo h.upF.length uc, .slice ul h.up.length ulc, .slice wo h.dnF.length wc, .slice dl h.dn.length dlc] 25) ∧ wx.heap[z + 1]? = some (.cells #[.int .i64 0, .slice none 0 0] 43) ∧ wx.heap[z + 2]? = some (.cells #[.int .i64 (h.node.length : Int), .slice none 0 0] 43) ∧ HasH wx ⟨no, uo, ul, wo, dl, nc, uc, ulc, wc, dlc⟩ h ∧ Below w.heap.size w wx) := fun wx hx => by
    have g := hB0.trans (hx.mono hB0.size)
    exact ⟨(hx.block _ (some_lt h0)).trans h0, (hx.block _ (some_lt h1)).trans h1, (hx.block _ (some_lt h2)).trans h2, hH.keep g, g⟩
  have HHB : Hid (∀ wx, Below w.heap.size w wx → HasH wx ⟨no, uo, ul, wo, dl, nc, uc, ulc, wc, dlc⟩ h) := fun wx hx => hH.keep hx
  have HS0 : Hid (z + 2 < W0.heap.size ∧ w.heap.size = z) := ⟨some_lt h2, hz⟩
  have HAR : Hid (Calls Tryz.prog 71 #[hvl ⟨no, uo, ul, wo, dl, nc, uc, ulc, wc, dlc⟩ h] W0 fun e w' => ∃ mo mc, e = .returned (.slice mo (stds h).length mc) ∧ HasEs w' (.slice mo (stds h).length mc) h ∧ Below W0.heap.size W0 w') := arcsR_calls _ h W0 (HQ.out W0 (Below.refl _ _)).2.2.2.1 k5 k6 (by omega) (by omega) k2
  have HLK : Hid (∀ (wx : World) (i : Nat), HasH wx ⟨no, uo, ul, wo, dl, nc, uc, ulc, wc, dlc⟩ h → i < (stds h).length → Calls Tryz.prog 64 #[hvl ⟨no, uo, ul, wo, dl, nc, uc, ulc, wc, dlc⟩ h, .int .i64 (i : Int)] wx fun e w' => e = .returned (lvl (linkAt h i)) ∧ Below wx.heap.size wx w') := fun wx i hx hi => link_calls _ h i wx hx (by omega) (by omega)
  have HFM : Hid (∀ i, i < (stds h).length → (sd (stds h) i).tail < h.node.length ∧ (sd (stds h) i).head < h.node.length ∧ ((sd (stds h) i).lk.plain = true → (sd (stds h) i).lk.wt ≤ 2147483647) ∧ (sd (stds h) i).lk = linkAt h i) := fun i hi => by
    have hmem : sd (stds h) i ∈ stds h := List.mem_of_getElem? (sd_get hi)
    obtain ⟨p1, p2, _, p4⟩ := form_mem k8 hmem
    exact ⟨p1, p2, p4, (stds_lk k5 k6 hi).symm⟩
  have HRO : Hid (∀ (L : List (Int × Int × Int)) (wx : World) (ao : Option Addr) (cap : Nat), HasArcs wx (.slice ao L.length cap) L → L.length ≤ 262144 → Calls Tryz.prog 72 #[.agg #[.int .i64 (h.node.length : Int), .slice ao L.length cap]] wx fun e w' => ∃ lo lc, e = .returned (.agg #[.int .i64 (h.node.length : Int), .slice lo (normA L).length lc]) ∧ HasArcs w' (.slice lo (normA L).length lc) (normA L) ∧ NewA wx.heap.size (.slice lo (normA L).length lc) ∧ RowKit.Below wx.heap.size wx w') := fun L wx ao cap hl hm => refOf_calls (h.node.length : Int) ao cap L wx hl hm
  have HGL : Hid (∀ k, (gArcs h ((stds h).take k)).length ≤ 262144) := fun k => by
    have := gArcs_len h ((stds h).take k)
    have e : ((stds h).take k).length ≤ (stds h).length := by rw [List.length_take]; omega
    omega
  have HLEN : Hid ((stds h).length ≤ 262144) := hm
  have HN : Hid (h.node.length ≤ 65536) := k1
  have HW0 : Hid (((w.alloc (.cells #[.slice no h.node.length nc, .slice uo h.upF.length uc, .slice ul h.up.length ulc, .slice wo h.dnF.length wc, .slice dl h.dn.length dlc] 25)).alloc (.cells #[.int .i64 0, .slice none 0 0] 43)).alloc (.cells #[.int .i64 (h.node.length : Int), .slice none 0 0] 43) = W0) := hW0
  obtain ⟨i0, hi9, hzz⟩ := Option.map_eq_some_iff.1 infoArcs
  simp only [Prod.mk.injEq] at hzz
  have HI : Hid (Tryz.prog.info? 63 = some i0 ∧ i0.zero = some (.agg #[.int .i64 0, .int .i64 0, .int .i64 0]) ∧ i0.size = 3 ∧ i0.bytes = 24) := ⟨hi9, hzz⟩
  have hbg := build_g (h.node.length : Int)
  have hi1 : h.node.length ≤ 65536 := k1
  clear hW0 h0 h1 h2 hB0 hH hi9 hzz hlen hm hc k1 k2 k3 k4 k5 k6 k7 k8
  have eHV : hvl ⟨no, uo, ul, wo, dl, nc, uc, ulc, wc, dlc⟩ h = .agg #[.slice no h.node.length nc, .slice uo h.upF.length uc, .slice ul h.up.length ulc, .slice wo h.dnF.length wc, .slice dl h.dn.length dlc] := rfl
  rw [eHV] at HAR HLK ⊢
  clear eHV
  go_enter Tryz.func47, Tryz.ntmps47
  go_upto_region 2 with fail
  rw [HW0.out]
  clear HW0 hz hbg
  obtain ⟨c0, c1, c2, c3, c4⟩ := five_cells (HQ.out W0 (Below.refl _ _)).1
  go_wp2_with fail
  refine HAR.out.mono ?_
  rintro e w3 ⟨mo, mc, rfl, hes, hb⟩
  have HJ0 : Hid (GJ w ⟨no, uo, ul, wo, dl, nc, uc, ulc, wc, dlc⟩ h z w3.heap.size mo mc (gArcs h ((stds h).take 0)) none 0 w3) := by
    obtain ⟨g0, g1, g2, g3, g4⟩ := HQ.out w3 hb
    exact ⟨g0, g1, g2, hes, World.ownsRow_nil _ _ _ _, g4, Nat.le_refl _⟩
  have HS3 : Hid (z + 2 < w3.heap.size) := Nat.lt_of_lt_of_le HS0.out.1 hb.size
  clear hes hb c0 c1 c2 c3 c4 HAR
  go_wp2_with fail
  go_loopw [14] (fun nv wr => ∃ (k : Nat) (so : Option Addr) (sc : Nat), k ≤ (stds h).length ∧ nv = .int .i64 k ∧ Hid (GJ w ⟨no, uo, ul, wo, dl, nc, uc, ulc, wc, dlc⟩ h z w3.heap.size mo mc (gArcs h ((stds h).take k)) so sc wr)) (fun nv _ => (stds h).length - (intOf nv).toNat)
  case atStart => exact ⟨0, none, 0, Nat.zero_le _, rfl, HJ0.out⟩
  case round =>
    obtain ⟨k, so, sc, hk, rfl, HJ⟩ := hrel
    by_cases hlt : k < (stds h).length
    · obtain ⟨b, e1, ⟨q0, q1, q2⟩, hbl⟩ := HJ.out.es.at hlt
      subst e1
      obtain ⟨p1, p2, p4, p5⟩ := HFM.out k hlt
      have HYES := fun hp => gtake_yes hlt hp
      have HNO := fun hp => gtake_no hlt hp
      have HLK1 : Hid (∀ wx, HasH wx ⟨no, uo, ul, wo, dl, nc, uc, ulc, wc, dlc⟩ h → Calls Tryz.prog 64 #[.agg #[.slice no h.node.length nc, .slice uo h.upF.length uc, .slice ul h.up.length ulc, .slice wo h.dnF.length wc, .slice dl h.dn.length dlc], .int .i64 (k : Int)] wx fun e w' => e = .returned (lvl (linkAt h k)) ∧ Below wx.heap.size wx w') := fun wx hx => HLK.out wx k hx hlt
      have hao : arcOf h (sd (stds h) k) = ((nth h.node (sd (stds h) k).tail : Int), (nth h.node (sd (stds h) k).head : Int), ((sd (stds h) k).lk.wt : Int)) := rfl
      rw [p5] at p4 HYES HNO hao
      obtain ⟨tl, htl⟩ : ∃ tl, (sd (stds h) k).tail = tl := ⟨_, rfl⟩
      obtain ⟨hv, hhv⟩ : ∃ hv, (sd (stds h) k).head = hv := ⟨_, rfl⟩
      obtain ⟨rk, hrk⟩ : ∃ rk, (sd (stds h) k).rk = rk := ⟨_, rfl⟩
      rw [htl] at q0 p1 hao
      rw [hhv] at q1 p2 hao
      rw [hrk] at q2
      rw [hao] at HYES
      obtain ⟨LL, hLL⟩ : ∃ l, linkAt h k = l := ⟨_, rfl⟩
      rw [hLL] at p4 HYES HNO HLK1
      obtain ⟨lh, lw, ll, lr⟩ := LL
      have HYE : Hid (type_of% HYES) := HYES
      have HNP : Hid (type_of% HNO) := HNO
      have HWT : Hid ((Lk.mk lh lw ll lr).plain = true → lw ≤ 2147483647) := p4
      have HTL : Hid (tl < h.node.length ∧ hv < h.node.length) := ⟨p1, p2⟩
      unfold lvl at HLK1
      simp only at HLK1
      have i1 : (k : Int) < ((stds h).length : Int) := by omega
      have i2 : (0 : Int) ≤ (k : Int) := by omega
      have i3 : k < 262144 := by have := HLEN.out; omega
      obtain ⟨bx, hbx⟩ : ∃ s, wr.heap.size = s := ⟨_, rfl⟩
      obtain ⟨W1, hW1⟩ : ∃ W1, wr.alloc (.cells #[.int .i64 (tl : Int), .int .i64 (hv : Int), .int .i64 (rk : Int)] 100) = W1 := ⟨_, rfl⟩
      have HW1 : Hid (wr.alloc (.cells #[.int .i64 (tl : Int), .int .i64 (hv : Int), .int .i64 (rk : Int)] 100) = W1) := hW1
      have H1 : Hid (∀ wx, Below W1.heap.size W1 wx → wx.heap[bx]? = some (.cells #[.int .i64 (tl : Int), .int .i64 (hv : Int), .int .i64 (rk : Int)] 100) ∧ GJ w ⟨no, uo, ul, wo, dl, nc, uc, ulc, wc, dlc⟩ h z w3.heap.size (some ⟨b, 0, none⟩) mc (gArcs h ((stds h).take k)) so sc wx) := fun wx hx => by
        have g1 : W1.heap[bx]? = some (.cells #[.int .i64 (tl : Int), .int .i64 (hv : Int), .int .i64 (rk : Int)] 100) := by rw [← hW1, ← hbx]; exact heap_newW _ _
        have g2 : Below wr.heap.size wr W1 := by rw [← hW1]; exact (Below.refl _ _).alloc (Nat.le_refl _) _
        exact ⟨(hx.block _ (some_lt g1)).trans g1, HJ.out.keep (btrH' g2 hx)⟩
      clear hW1 p1 p2 p4 p5 htl hhv hrk hao hLL HYES HNO
      go_upto_region 5 with fail
      rw [HW1.out]
      clear HW1 q0 q1 q2 hbx
      obtain ⟨c0, c1, c2, c3, c4⟩ := five_cells (H1.out W1 (Below.refl _ _)).2.bx
      go_wp2_with fail
      refine (HLK1.out W1 (HHB.out W1 (H1.out W1 (Below.refl _ _)).2.bl)).mono ?_
      rintro e w5 ⟨rfl, hb5⟩
      obtain ⟨by', hby⟩ : ∃ s, w5.heap.size = s := ⟨_, rfl⟩
      obtain ⟨W6, hW6⟩ : ∃ W6, w5.alloc (.cells #[.int .u32 (lh : Int), .int .u64 (lw : Int), .int .u32 (ll : Int), .int .u32 (lr : Int)] 95) = W6 := ⟨_, rfl⟩
      have HW6 : Hid (w5.alloc (.cells #[.int .u32 (lh : Int), .int .u64 (lw : Int), .int .u32 (ll : Int), .int .u32 (lr : Int)] 95) = W6) := hW6
      have H6 : Hid (∀ wx, Below W6.heap.size W6 wx → wx.heap[by']? = some (.cells #[.int .u32 (lh : Int), .int .u64 (lw : Int), .int .u32 (ll : Int), .int .u32 (lr : Int)] 95) ∧ wx.heap[bx]? = some (.cells #[.int .i64 (tl : Int), .int .i64 (hv : Int), .int .i64 (rk : Int)] 100) ∧ GJ w ⟨no, uo, ul, wo, dl, nc, uc, ulc, wc, dlc⟩ h z w3.heap.size (some ⟨b, 0, none⟩) mc (gArcs h ((stds h).take k)) so sc wx) := fun wx hx => by
        have g1 : W6.heap[by']? = some (.cells #[.int .u32 (lh : Int), .int .u64 (lw : Int), .int .u32 (ll : Int), .int .u32 (lr : Int)] 95) := by rw [← hW6, ← hby]; exact heap_newW _ _
        have g2 : Below w5.heap.size w5 W6 := by rw [← hW6]; exact (Below.refl _ _).alloc (Nat.le_refl _) _
        obtain ⟨g3, g4⟩ := H1.out wx (btrH' hb5 (btrH' g2 hx))
        exact ⟨(hx.block _ (some_lt g1)).trans g1, g3, g4⟩
      clear hW6 hb5 c0 c1 c2 c3 c4 H1 HLK1
      go_upto_region 6 with fail
      rw [HW6.out]
      clear HW6 hby
      obtain ⟨b0, b1, b2, b3⟩ := four_at (H6.out W6 (Below.refl _ _)).1
      go_wp2_with fail
      refine (tplain_calls ⟨lh, lw, ll, lr⟩ W6).mono ?_
      rintro e w7 ⟨rfl, hb7⟩
      have H7 : Hid (∀ wx, Below w7.heap.size w7 wx → wx.heap[by']? = some (.cells #[.int .u32 (lh : Int), .int .u64 (lw : Int), .int .u32 (ll : Int), .int .u32 (lr : Int)] 95) ∧ wx.heap[bx]? = some (.cells #[.int .i64 (tl : Int), .int .i64 (hv : Int), .int .i64 (rk : Int)] 100) ∧ GJ w ⟨no, uo, ul, wo, dl, nc, uc, ulc, wc, dlc⟩ h z w3.heap.size (some ⟨b, 0, none⟩) mc (gArcs h ((stds h).take k)) so sc wx) := fun wx hx => H6.out wx (btrH' hb7 hx)
      clear hb7 b0 b1 b2 b3 H6
      obtain ⟨pl, hpl⟩ : ∃ pl, (Lk.mk lh lw ll lr).plain = pl := ⟨_, rfl⟩
      rw [hpl] at HYE HNP HWT ⊢
      clear hpl
      cases pl
      · have HN : Hid (GJ w ⟨no, uo, ul, wo, dl, nc, uc, ulc, wc, dlc⟩ h z w3.heap.size (some ⟨b, 0, none⟩) mc (gArcs h ((stds h).take (k + 1))) so sc w7) := by rw [HNP.out rfl]; exact (H7.out w7 (Below.refl _ _)).2.2
        clear HNP HYE HWT H7 HJ
        go_wp2
        go_roundw
        case rel => exact ⟨k + 1, so, sc, by omega, by go_num, HN.out⟩
        case measure => simp [intOf]; omega
      · have HYY := HYE.out rfl
        have HW9 := HWT.out rfl
        have HYX : Hid (type_of% HYY) := HYY
        clear HNP HYE HWT HYY
        obtain ⟨nb, noff, e1, hnl, hcc⟩ := (HHB.out w7 (H7.out w7 (Below.refl _ _)).2.2.bl).node.cells (by have := HTL.out.1; omega)
        subst e1
        have HNC : Hid (∀ wx, Below w.heap.size w wx → wx.cell? ⟨nb, noff + tl, none⟩ = some (.int .u32 (nth h.node tl : Int)) ∧ wx.cell? ⟨nb, noff + hv, none⟩ = some (.int .u32 (nth h.node hv : Int))) := fun wx hx => by
          obtain ⟨nb', noff', e', _, hc'⟩ := (HHB.out wx hx).node.cells (by have := HTL.out.1; omega)
          cases e'
          exact ⟨hc' tl HTL.out.1, hc' hv HTL.out.2⟩
        have hs1 := (HHB.out w7 (H7.out w7 (Below.refl _ _)).2.2.bl).node.small tl
        have hs2 := (HHB.out w7 (H7.out w7 (Below.refl _ _)).2.2.bl).node.small hv
        obtain ⟨x, hx⟩ : ∃ x, nth h.node tl = x := ⟨_, rfl⟩
        obtain ⟨y, hy⟩ : ∃ y, nth h.node hv = y := ⟨_, rfl⟩
        rw [hx] at HNC HYX hs1
        rw [hy] at HNC HYX hs2
        have j1 : (0 : Int) ≤ (tl : Int) := by omega
        have j2 : (tl : Int) < (h.node.length : Int) := by have := HTL.out.1; omega
        have j3 : (0 : Int) ≤ (hv : Int) := by omega
        have j4 : (hv : Int) < (h.node.length : Int) := by have := HTL.out.2; omega
        have j5 : IntKind.i64.wrap (x : Int) = (x : Int) := by rw [IntKind.wrap_i64]; omega
        have j6 : IntKind.i64.wrap (y : Int) = (y : Int) := by rw [IntKind.wrap_i64]; omega
        have j7 : IntKind.i64.wrap (lw : Int) = (lw : Int) := by rw [IntKind.wrap_i64]; omega
        have hba := build_arcV (x : Int) (y : Int) (lw : Int)
        have hb1 := build_arc1 (x : Int) (y : Int) (lw : Int)
        clear hcc hnl hx hy hs1 hs2 HW9 HJ
        go_wp2_with fail
        have HSS : Hid (∀ wx : World, (wx.heap[by']? = some (.cells #[.int .u32 (lh : Int), .int .u64 (lw : Int), .int .u32 (ll : Int), .int .u32 (lr : Int)] 95) ∧ wx.heap[bx]? = some (.cells #[.int .i64 (tl : Int), .int .i64 (hv : Int), .int .i64 (rk : Int)] 100) ∧ GJ w ⟨some ⟨nb, noff, none⟩, uo, ul, wo, dl, nc, uc, ulc, wc, dlc⟩ h z w3.heap.size (some ⟨b, 0, none⟩) mc (gArcs h ((stds h).take k)) so sc wx) → (fun w' => w'.cell? ⟨z, 0, none⟩ = some (.slice (some ⟨nb, noff, none⟩) h.node.length nc) ∧ w'.cell? ⟨nb, noff + tl, none⟩ = some (.int .u32 (x : Int)) ∧ w'.cell? ⟨nb, noff + hv, none⟩ = some (.int .u32 (y : Int)) ∧ w'.cell? ⟨bx, 0, none⟩ = some (.int .i64 (tl : Int)) ∧ w'.cell? ⟨bx, 1, none⟩ = some (.int .i64 (hv : Int)) ∧ w'.cell? ⟨by', 1, none⟩ = some (.int .u64 (lw : Int)) ∧ Hid (w'.heap[bx]? = some (.cells #[.int .i64 (tl : Int), .int .i64 (hv : Int), .int .i64 (rk : Int)] 100) ∧ w'.heap[by']? = some (.cells #[.int .u32 (lh : Int), .int .u64 (lw : Int), .int .u32 (ll : Int), .int .u32 (lr : Int)] 95))) wx) := fun wx hx => by
          obtain ⟨a0, a1, a2, a3, a4⟩ := five_cells hx.2.2.bx
          obtain ⟨⟨e0, e1, e2⟩, _⟩ := tri_at hx.2.1
          obtain ⟨b0, b1, b2, b3⟩ := four_at hx.1
          obtain ⟨n1, n2⟩ := HNC.out wx hx.2.2.bl
          exact ⟨a0, n1, n2, e0, e1, b1, hx.2.1, hx.1⟩
        refine wp_region_M (S := (fun w' => w'.cell? ⟨z, 0, none⟩ = some (.slice (some ⟨nb, noff, none⟩) h.node.length nc) ∧ w'.cell? ⟨nb, noff + tl, none⟩ = some (.int .u32 (x : Int)) ∧ w'.cell? ⟨nb, noff + hv, none⟩ = some (.int .u32 (y : Int)) ∧ w'.cell? ⟨bx, 0, none⟩ = some (.int .i64 (tl : Int)) ∧ w'.cell? ⟨bx, 1, none⟩ = some (.int .i64 (hv : Int)) ∧ w'.cell? ⟨by', 1, none⟩ = some (.int .u64 (lw : Int)) ∧ Hid (w'.heap[bx]? = some (.cells #[.int .i64 (tl : Int), .int .i64 (hv : Int), .int .i64 (rk : Int)] 100) ∧ w'.heap[by']? = some (.cells #[.int .u32 (lh : Int), .int .u64 (lw : Int), .int .u32 (ll : Int), .int .u32 (lr : Int)] 95)))) (by kernel_rfl) (HSS.out _ (H7.out _ (Below.refl _ _).drew)) ?_
        have F1 : Hid (∀ wx, Below w7.drew.heap.size w7.drew wx → (wx.heap[by']? = some (.cells #[.int .u32 (lh : Int), .int .u64 (lw : Int), .int .u32 (ll : Int), .int .u32 (lr : Int)] 95) ∧ wx.heap[bx]? = some (.cells #[.int .i64 (tl : Int), .int .i64 (hv : Int), .int .i64 (rk : Int)] 100) ∧ GJ w ⟨some ⟨nb, noff, none⟩, uo, ul, wo, dl, nc, uc, ulc, wc, dlc⟩ h z w3.heap.size (some ⟨b, 0, none⟩) mc (gArcs h ((stds h).take k)) so sc wx)) := fun wx hx => H7.out wx (btrH' (Below.refl _ _).drew hx)
        clear H7
        refine wpAnyM_take (i := 0) (oi := { dst := Option.some 24, op := Op.fieldAddr 43 (Operand.tmp 3) 1, type := 0, pos := "ref.go:166", after := #[], guard := Option.none }) (v := ?va1z0) rfl (by kernel_rfl) (by kernel_rfl) (by kernel_rfl) (fun _ _ _ h => h) (YieldsM.of_if (Or.inl ⟨by rfl, ?ha1z0⟩)) ?ra1z0
        case ha1z0 => ((intro wz hSw; (try dsimp only at hSw); go_simp); try (with_reducible rfl))
        try simp only [Act.put, List.setIfInBounds_toArray, List.set_cons_zero, List.set_cons_succ]
        refine wpAnyM_take (i := 2) (oi := { dst := Option.some 26, op := Op.fieldAddr 25 (Operand.tmp 1) 0, type := 0, pos := "ref.go:166", after := #[], guard := Option.none }) (v := ?va2z2) rfl (by kernel_rfl) (by kernel_rfl) (by kernel_rfl) (fun _ _ _ h => h) (YieldsM.of_if (Or.inl ⟨by rfl, ?ha2z2⟩)) ?ra2z2
        case ha2z2 => ((intro wz hSw; (try dsimp only at hSw); go_simp); try (with_reducible rfl))
        try simp only [Act.put, List.setIfInBounds_toArray, List.set_cons_zero, List.set_cons_succ]
        refine wpAnyM_take (i := 3) (oi := { dst := Option.some 27, op := Op.load 22 (Operand.tmp 26), type := 22, pos := "ref.go:166", after := #[{ on := 2, ground := Ground.data }], guard := Option.none }) (v := ?va3z3) rfl (by kernel_rfl) (by kernel_rfl) (by kernel_rfl) (fun _ _ _ h => h) (YieldsM.of_if (Or.inl ⟨by rfl, ?ha3z3⟩)) ?ra3z3
        case ha3z3 => ((intro wz hSw; (try dsimp only at hSw); go_simp); try (with_reducible rfl))
        try simp only [Act.put, List.setIfInBounds_toArray, List.set_cons_zero, List.set_cons_succ]
        refine wpAnyM_take (i := 4) (oi := { dst := Option.some 28, op := Op.fieldAddr 100 (Operand.tmp 5) 0, type := 0, pos := "ref.go:166", after := #[], guard := Option.none }) (v := ?va4z4) rfl (by kernel_rfl) (by kernel_rfl) (by kernel_rfl) (fun _ _ _ h => h) (YieldsM.of_if (Or.inl ⟨by rfl, ?ha4z4⟩)) ?ra4z4
        case ha4z4 => ((intro wz hSw; (try dsimp only at hSw); go_simp); try (with_reducible rfl))
        try simp only [Act.put, List.setIfInBounds_toArray, List.set_cons_zero, List.set_cons_succ]
        refine wpAnyM_take (i := 5) (oi := { dst := Option.some 29, op := Op.load 3 (Operand.tmp 28), type := 3, pos := "ref.go:166", after := #[{ on := 4, ground := Ground.data }], guard := Option.none }) (v := ?va5z5) rfl (by kernel_rfl) (by kernel_rfl) (by kernel_rfl) (fun _ _ _ h => h) (YieldsM.of_if (Or.inl ⟨by rfl, ?ha5z5⟩)) ?ra5z5
        case ha5z5 => ((intro wz hSw; (try dsimp only at hSw); go_simp); try (with_reducible rfl))
        try simp only [Act.put, List.setIfInBounds_toArray, List.set_cons_zero, List.set_cons_succ]
        refine wpAnyM_take (i := 6) (oi := { dst := Option.some 30, op := Op.indexAddr 22 (Operand.tmp 27) (Operand.tmp 29), type := 0, pos := "ref.go:166", after := #[{ on := 3, ground := Ground.data }, { on := 5, ground := Ground.data }], guard := Option.none }) (v := ?va6z6) rfl (by kernel_rfl) (by kernel_rfl) (by kernel_rfl) (fun _ _ _ h => h) (YieldsM.of_if (Or.inl ⟨by rfl, ?ha6z6⟩)) ?ra6z6
        case ha6z6 => ((intro wz hSw; (try dsimp only at hSw); go_simp); try (with_reducible rfl))
        try simp only [Act.put, List.setIfInBounds_toArray, List.set_cons_zero, List.set_cons_succ]
        refine wpAnyM_take (i := 7) (oi := { dst := Option.some 31, op := Op.load 86 (Operand.tmp 30), type := 86, pos := "ref.go:166", after := #[{ on := 6, ground := Ground.data }], guard := Option.none }) (v := ?va7z7) rfl (by kernel_rfl) (by kernel_rfl) (by kernel_rfl) (fun _ _ _ h => h) (YieldsM.of_if (Or.inl ⟨by rfl, ?ha7z7⟩)) ?ra7z7
        case ha7z7 => ((intro wz hSw; (try dsimp only at hSw); go_simp); try (with_reducible rfl))
        try simp only [Act.put, List.setIfInBounds_toArray, List.set_cons_zero, List.set_cons_succ]
        refine wpAnyM_take (i := 8) (oi := { dst := Option.some 32, op := Op.convert 86 3 (Operand.tmp 31), type := 3, pos := "ref.go:166", after := #[{ on := 7, ground := Ground.data }], guard := Option.none }) (v := ?va8z8) rfl (by kernel_rfl) (by kernel_rfl) (by kernel_rfl) (fun _ _ _ h => h) (YieldsM.of_if (Or.inl ⟨by rfl, ?ha8z8⟩)) ?ra8z8
        case ha8z8 => ((intro wz hSw; (try dsimp only at hSw); go_simp); try (with_reducible rfl))
        try simp only [Act.put, List.setIfInBounds_toArray, List.set_cons_zero, List.set_cons_succ]
        refine wpAnyM_take (i := 9) (oi := { dst := Option.some 33, op := Op.fieldAddr 25 (Operand.tmp 1) 0, type := 0, pos := "ref.go:166", after := #[], guard := Option.none }) (v := ?va9z9) rfl (by kernel_rfl) (by kernel_rfl) (by kernel_rfl) (fun _ _ _ h => h) (YieldsM.of_if (Or.inl ⟨by rfl, ?ha9z9⟩)) ?ra9z9
        case ha9z9 => ((intro wz hSw; (try dsimp only at hSw); go_simp); try (with_reducible rfl))
        try simp only [Act.put, List.setIfInBounds_toArray, List.set_cons_zero, List.set_cons_succ]
        refine wpAnyM_take (i := 10) (oi := { dst := Option.some 34, op := Op.load 22 (Operand.tmp 33), type := 22, pos := "ref.go:166", after := #[{ on := 9, ground := Ground.data }], guard := Option.none }) (v := ?va10z10) rfl (by kernel_rfl) (by kernel_rfl) (by kernel_rfl) (fun _ _ _ h => h) (YieldsM.of_if (Or.inl ⟨by rfl, ?ha10z10⟩)) ?ra10z10
        case ha10z10 => ((intro wz hSw; (try dsimp only at hSw); go_simp); try (with_reducible rfl))
        try simp only [Act.put, List.setIfInBounds_toArray, List.set_cons_zero, List.set_cons_succ]
        refine wpAnyM_take (i := 11) (oi := { dst := Option.some 35, op := Op.fieldAddr 100 (Operand.tmp 5) 1, type := 0, pos := "ref.go:166", after := #[], guard := Option.none }) (v := ?va11z11) rfl (by kernel_rfl) (by kernel_rfl) (by kernel_rfl) (fun _ _ _ h => h) (YieldsM.of_if (Or.inl ⟨by rfl, ?ha11z11⟩)) ?ra11z11
        case ha11z11 => ((intro wz hSw; (try dsimp only at hSw); go_simp); try (with_reducible rfl))
        try simp only [Act.put, List.setIfInBounds_toArray, List.set_cons_zero, List.set_cons_succ]
        refine wpAnyM_take (i := 12) (oi := { dst := Option.some 36, op := Op.load 3 (Operand.tmp 35), type := 3, pos := "ref.go:166", after := #[{ on := 11, ground := Ground.data }], guard := Option.none }) (v := ?va12z12) rfl (by kernel_rfl) (by kernel_rfl) (by kernel_rfl) (fun _ _ _ h => h) (YieldsM.of_if (Or.inl ⟨by rfl, ?ha12z12⟩)) ?ra12z12
        case ha12z12 => ((intro wz hSw; (try dsimp only at hSw); go_simp); try (with_reducible rfl))
        try simp only [Act.put, List.setIfInBounds_toArray, List.set_cons_zero, List.set_cons_succ]
        refine wpAnyM_take (i := 13) (oi := { dst := Option.some 37, op := Op.indexAddr 22 (Operand.tmp 34) (Operand.tmp 36), type := 0, pos := "ref.go:166", after := #[{ on := 10, ground := Ground.data }, { on := 12, ground := Ground.data }], guard := Option.none }) (v := ?va13z13) rfl (by kernel_rfl) (by kernel_rfl) (by kernel_rfl) (fun _ _ _ h => h) (YieldsM.of_if (Or.inl ⟨by rfl, ?ha13z13⟩)) ?ra13z13
        case ha13z13 => ((intro wz hSw; (try dsimp only at hSw); go_simp); try (with_reducible rfl))
        try simp only [Act.put, List.setIfInBounds_toArray, List.set_cons_zero, List.set_cons_succ]
        refine wpAnyM_take (i := 14) (oi := { dst := Option.some 38, op := Op.load 86 (Operand.tmp 37), type := 86, pos := "ref.go:166", after := #[{ on := 13, ground := Ground.data }], guard := Option.none }) (v := ?va14z14) rfl (by kernel_rfl) (by kernel_rfl) (by kernel_rfl) (fun _ _ _ h => h) (YieldsM.of_if (Or.inl ⟨by rfl, ?ha14z14⟩)) ?ra14z14
        case ha14z14 => ((intro wz hSw; (try dsimp only at hSw); go_simp); try (with_reducible rfl))
        try simp only [Act.put, List.setIfInBounds_toArray, List.set_cons_zero, List.set_cons_succ]
        refine wpAnyM_take (i := 15) (oi := { dst := Option.some 39, op := Op.convert 86 3 (Operand.tmp 38), type := 3, pos := "ref.go:166", after := #[{ on := 14, ground := Ground.data }], guard := Option.none }) (v := ?va15z15) rfl (by kernel_rfl) (by kernel_rfl) (by kernel_rfl) (fun _ _ _ h => h) (YieldsM.of_if (Or.inl ⟨by rfl, ?ha15z15⟩)) ?ra15z15
        case ha15z15 => ((intro wz hSw; (try dsimp only at hSw); go_simp); try (with_reducible rfl))
        try simp only [Act.put, List.setIfInBounds_toArray, List.set_cons_zero, List.set_cons_succ]
        refine wpAnyM_take (i := 16) (oi := { dst := Option.some 40, op := Op.fieldAddr 95 (Operand.tmp 6) 1, type := 0, pos := "ref.go:166", after := #[], guard := Option.none }) (v := ?va16z16) rfl (by kernel_rfl) (by kernel_rfl) (by kernel_rfl) (fun _ _ _ h => h) (YieldsM.of_if (Or.inl ⟨by rfl, ?ha16z16⟩)) ?ra16z16
        case ha16z16 => ((intro wz hSw; (try dsimp only at hSw); go_simp); try (with_reducible rfl))
        try simp only [Act.put, List.setIfInBounds_toArray, List.set_cons_zero, List.set_cons_succ]
        refine wpAnyM_take (i := 17) (oi := { dst := Option.some 41, op := Op.load 87 (Operand.tmp 40), type := 87, pos := "ref.go:166", after := #[{ on := 16, ground := Ground.data }], guard := Option.none }) (v := ?va17z17) rfl (by kernel_rfl) (by kernel_rfl) (by kernel_rfl) (fun _ _ _ h => h) (YieldsM.of_if (Or.inl ⟨by rfl, ?ha17z17⟩)) ?ra17z17
        case ha17z17 => ((intro wz hSw; (try dsimp only at hSw); go_simp); try (with_reducible rfl))
        try simp only [Act.put, List.setIfInBounds_toArray, List.set_cons_zero, List.set_cons_succ]
        refine wpAnyM_take (i := 18) (oi := { dst := Option.some 42, op := Op.convert 87 3 (Operand.tmp 41), type := 3, pos := "ref.go:166", after := #[{ on := 17, ground := Ground.data }], guard := Option.none }) (v := ?va18z18) rfl (by kernel_rfl) (by kernel_rfl) (by kernel_rfl) (fun _ _ _ h => h) (YieldsM.of_if (Or.inl ⟨by rfl, ?ha18z18⟩)) ?ra18z18
        case ha18z18 => ((intro wz hSw; (try dsimp only at hSw); go_simp); try (with_reducible rfl))
        try simp only [Act.put, List.setIfInBounds_toArray, List.set_cons_zero, List.set_cons_succ]
        refine wpAnyM_take (i := 19) (oi := { dst := Option.some 43, op := Op.build 63 #[(0, Operand.tmp 32), (1, Operand.tmp 39), (2, Operand.tmp 42)], type := 63, pos := "ref.go:166", after := #[{ on := 8, ground := Ground.data }, { on := 15, ground := Ground.data }, { on := 18, ground := Ground.data }], guard := Option.none }) (v := ?va19z19) rfl (by kernel_rfl) (by kernel_rfl) (by kernel_rfl) (fun _ _ _ h => h) (YieldsM.of_if (Or.inl ⟨by rfl, ?ha19z19⟩)) ?ra19z19
        case ha19z19 => ((intro wz hSw; (try dsimp only at hSw); go_simp); try (with_reducible rfl))
        try simp only [Act.put, List.setIfInBounds_toArray, List.set_cons_zero, List.set_cons_succ]
        refine ready2M (i := 1) (j := 20) (oi := { dst := Option.some 25, op := Op.load 41 (Operand.tmp 24), type := 41, pos := "ref.go:166", after := #[{ on := 0, ground := Ground.data }], guard := Option.none }) (oj := { dst := Option.some 44, op := Op.buildSlice 41 1 #[(0, Operand.tmp 43)], type := 41, pos := "ref.go:166", after := #[{ on := 19, ground := Ground.data }], guard := Option.none }) rfl rfl (by kernel_rfl) ?_ ?_
        · intro u1 hg1 hS1 K hK
          have hf := F1.out u1 hg1
          have F1b : Hid (∀ wx, Below u1.heap.size u1 wx → (wx.heap[by']? = some (.cells #[.int .u32 (lh : Int), .int .u64 (lw : Int), .int .u32 (ll : Int), .int .u32 (lr : Int)] 95) ∧ wx.heap[bx]? = some (.cells #[.int .i64 (tl : Int), .int .i64 (hv : Int), .int .i64 (rk : Int)] 100) ∧ GJ w ⟨some ⟨nb, noff, none⟩, uo, ul, wo, dl, nc, uc, ulc, wc, dlc⟩ h z w3.heap.size (some ⟨b, 0, none⟩) mc (gArcs h ((stds h).take k)) so sc wx)) := fun wx hx => F1.out wx (btrH' hg1 hx)
          obtain ⟨e0, e1, _, _⟩ := cell_two hf.2.2.gx
          clear hS1
          go_simp
          refine hK.out _ _ (HSS.out _ hf) ?_
          clear hK K e0 e1 hf hg1
          try simp only [Act.put, List.setIfInBounds_toArray, List.set_cons_zero, List.set_cons_succ]
          refine readyM (i := 20) (o := { dst := Option.some 44, op := Op.buildSlice 41 1 #[(0, Operand.tmp 43)], type := 41, pos := "ref.go:166", after := #[{ on := 19, ground := Ground.data }], guard := Option.none }) rfl (by kernel_rfl) ?_
          intro u2 hg2 hS2 K hK
          have hf := F1b.out u2 hg2
          have F2 : Hid (∀ wx, Below (u2.alloc (.cells #[.int .i64 (x : Int), .int .i64 (y : Int), .int .i64 (lw : Int)] 63)).heap.size (u2.alloc (.cells #[.int .i64 (x : Int), .int .i64 (y : Int), .int .i64 (lw : Int)] 63)) wx → (wx.heap[by']? = some (.cells #[.int .u32 (lh : Int), .int .u64 (lw : Int), .int .u32 (ll : Int), .int .u32 (lr : Int)] 95) ∧ wx.heap[bx]? = some (.cells #[.int .i64 (tl : Int), .int .i64 (hv : Int), .int .i64 (rk : Int)] 100) ∧ GJ w ⟨some ⟨nb, noff, none⟩, uo, ul, wo, dl, nc, uc, ulc, wc, dlc⟩ h z w3.heap.size (some ⟨b, 0, none⟩) mc (gArcs h ((stds h).take k)) so sc wx) ∧ wx.heap[u2.heap.size]? = some (.cells #[.int .i64 (x : Int), .int .i64 (y : Int), .int .i64 (lw : Int)] 63)) := fun wx hx => by
            have g1 := heap_newW u2 (.cells #[.int .i64 (x : Int), .int .i64 (y : Int), .int .i64 (lw : Int)] 63)
            have g2 : Below u2.heap.size u2 (u2.alloc (.cells #[.int .i64 (x : Int), .int .i64 (y : Int), .int .i64 (lw : Int)] 63)) := (Below.refl _ _).alloc (Nat.le_refl _) _
            exact ⟨F1b.out wx (btrH' hg2 (btrH' g2 hx)), (hx.block _ (some_lt g1)).trans g1⟩
          clear hS2
          go_simp
          refine hK.out _ _ (HSS.out _ (F2.out _ (Below.refl _ _)).1) ?_
          clear hK K
          obtain ⟨g, hgg⟩ : ∃ g, u2.heap.size = g := ⟨_, rfl⟩
          rw [hgg] at F2 ⊢
          generalize u2.alloc (.cells #[.int .i64 (x : Int), .int .i64 (y : Int), .int .i64 (lw : Int)] 63) = U2 at F2 ⊢
          clear hgg hf hg2
          try simp only [Act.put, List.setIfInBounds_toArray, List.set_cons_zero, List.set_cons_succ]
          obtain ⟨A, hA⟩ : ∃ A, gArcs h ((stds h).take k) = A := ⟨_, rfl⟩
          have HAL : A.length ≤ 262144 := by have := HGL.out k; rw [hA] at this; exact this
          rw [hA] at HYX F2 HSS ⊢
          clear hA
          refine readyM (i := 21) (o := { dst := Option.some 45, op := Op.call { callee := Callee.builtin Builtin.append, args := #[Operand.tmp 25, Operand.tmp 44], argTypes := #[41, 41] }, type := 41, pos := "ref.go:166", after := #[{ on := 1, ground := Ground.data }, { on := 20, ground := Ground.data }], guard := Option.none }) rfl (by kernel_rfl) ?_
          intro u3 hg3 hS3 K hK
          rw [if_pos (by rfl)]
          have hf := F2.out u3 hg3
          refine wp_append_own u3 _ _ 41 rfl w3.heap.size 63 i0 (.agg #[.int .i64 0, .int .i64 0, .int .i64 0]) 3 24 Tryz.underlying41 HI.out.1 HI.out.2.1 HI.out.2.2.1 HI.out.2.2.2 rfl (by decide) (.slice so A.length sc) A.length (flatA A) rfl hf.1.2.2.ow ⟨g, 0, none⟩ 1 1 (encA ((x : Int), (y : Int), (lw : Int))) rfl rfl (cells_three hf.2) (arc_one _) (by unfold maxLen; omega) (by omega) hf.1.2.2.sz ?_
          intro v5 w5 hown5 hgr5 _
          obtain ⟨po, pc, hv5⟩ := own_slice hown5
          subst hv5
          have HG5 := GJ.step HS3.out (by have := HS0.out.2; omega) hf.1.2.2 hown5 hgr5
          have H5 : Hid (w5.heap[z + 2]? = some (.cells #[.int .i64 (h.node.length : Int), .slice so A.length sc] 43) ∧ GJ w ⟨some ⟨nb, noff, none⟩, uo, ul, wo, dl, nc, uc, ulc, wc, dlc⟩ h z w3.heap.size (some ⟨b, 0, none⟩) mc (A ++ [((x : Int), (y : Int), (lw : Int))]) po pc (w5.setCell ⟨z + 2, 1, none⟩ (.slice po (A.length + 1) pc))) := ⟨HG5.1, HG5.2.1⟩
          have HB5 : Hid (w5.heap[by']? = some (.cells #[.int .u32 (lh : Int), .int .u64 (lw : Int), .int .u32 (ll : Int), .int .u32 (lr : Int)] 95) ∧ w5.heap[bx]? = some (.cells #[.int .i64 (tl : Int), .int .i64 (hv : Int), .int .i64 (rk : Int)] 100) ∧ w5.heap[z]? = some (.cells (cellsH ⟨some ⟨nb, noff, none⟩, uo, ul, wo, dl, nc, uc, ulc, wc, dlc⟩ h) 25) ∧ Below w.heap.size w w5) := ⟨HG5.2.2 _ _ hf.1.1 (fun c e => by cases e), HG5.2.2 _ _ hf.1.2.1 (fun c e => by cases e), HG5.2.2 _ _ hf.1.2.2.bx (fun c e => by cases e), below_grown hf.1.2.2.bl (own_lowO hf.1.2.2.ow (by have := HS0.out.2; have := HS3.out; omega)) hgr5 hf.1.2.2.bl.size⟩
          clear hown5 hgr5 hf hg3 hS3 F2 HG5
          have HS5 : Hid (∀ wx : World, (wx.heap[by']? = some (.cells #[.int .u32 (lh : Int), .int .u64 (lw : Int), .int .u32 (ll : Int), .int .u32 (lr : Int)] 95) ∧ wx.heap[bx]? = some (.cells #[.int .i64 (tl : Int), .int .i64 (hv : Int), .int .i64 (rk : Int)] 100) ∧ wx.heap[z]? = some (.cells (cellsH ⟨some ⟨nb, noff, none⟩, uo, ul, wo, dl, nc, uc, ulc, wc, dlc⟩ h) 25) ∧ Below w.heap.size w wx) → (fun w' => w'.cell? ⟨z, 0, none⟩ = some (.slice (some ⟨nb, noff, none⟩) h.node.length nc) ∧ w'.cell? ⟨nb, noff + tl, none⟩ = some (.int .u32 (x : Int)) ∧ w'.cell? ⟨nb, noff + hv, none⟩ = some (.int .u32 (y : Int)) ∧ w'.cell? ⟨bx, 0, none⟩ = some (.int .i64 (tl : Int)) ∧ w'.cell? ⟨bx, 1, none⟩ = some (.int .i64 (hv : Int)) ∧ w'.cell? ⟨by', 1, none⟩ = some (.int .u64 (lw : Int)) ∧ Hid (w'.heap[bx]? = some (.cells #[.int .i64 (tl : Int), .int .i64 (hv : Int), .int .i64 (rk : Int)] 100) ∧ w'.heap[by']? = some (.cells #[.int .u32 (lh : Int), .int .u64 (lw : Int), .int .u32 (ll : Int), .int .u32 (lr : Int)] 95))) wx) := fun wx hx => by
            obtain ⟨a0, a1, a2, a3, a4⟩ := five_cells hx.2.2.1
            obtain ⟨⟨e0, e1, e2⟩, _⟩ := tri_at hx.2.1
            obtain ⟨b0, b1, b2, b3⟩ := four_at hx.1
            obtain ⟨n1, n2⟩ := HNC.out wx hx.2.2.2
            exact ⟨a0, n1, n2, e0, e1, b1, hx.2.1, hx.1⟩
          refine hK.out _ _ (HS5.out _ HB5.out) ?_
          clear hK K
          try simp only [Act.put, List.setIfInBounds_toArray, List.set_cons_zero, List.set_cons_succ]
          refine wpAnyM_take (i := 22) (oi := { dst := Option.some 46, op := Op.fieldAddr 43 (Operand.tmp 3) 1, type := 0, pos := "ref.go:166", after := #[{ on := 0, ground := Ground.phase }, { on := 1, ground := Ground.phase }, { on := 2, ground := Ground.phase }, { on := 3, ground := Ground.phase }, { on := 4, ground := Ground.phase }, { on := 5, ground := Ground.phase }, { on := 6, ground := Ground.phase }, { on := 7, ground := Ground.phase }, { on := 8, ground := Ground.phase }, { on := 9, ground := Ground.phase }, { on := 10, ground := Ground.phase }, { on := 11, ground := Ground.phase }, { on := 12, ground := Ground.phase }, { on := 13, ground := Ground.phase }, { on := 14, ground := Ground.phase }, { on := 15, ground := Ground.phase }, { on := 16, ground := Ground.phase }, { on := 17, ground := Ground.phase }, { on := 18, ground := Ground.phase }, { on := 19, ground := Ground.phase }, { on := 20, ground := Ground.phase }, { on := 21, ground := Ground.phase }], guard := Option.none }) (v := ?vb20z22) rfl (by kernel_rfl) (by kernel_rfl) (by kernel_rfl) (fun _ _ _ h => h) (YieldsM.of_if (Or.inl ⟨by rfl, ?hb20z22⟩)) ?rb20z22
          case hb20z22 => ((intro wz hSw; (try dsimp only at hSw); go_simp); try (with_reducible rfl))
          try simp only [Act.put, List.setIfInBounds_toArray, List.set_cons_zero, List.set_cons_succ]
          refine readyM (i := 23) (o := { dst := Option.none, op := Op.store 41 (Operand.tmp 46) (Operand.tmp 45), type := 0, pos := "ref.go:166", after := #[{ on := 22, ground := Ground.data }, { on := 21, ground := Ground.data }, { on := 21, ground := Ground.chain }, { on := 0, ground := Ground.phase }, { on := 1, ground := Ground.phase }, { on := 2, ground := Ground.phase }, { on := 3, ground := Ground.phase }, { on := 4, ground := Ground.phase }, { on := 5, ground := Ground.phase }, { on := 6, ground := Ground.phase }, { on := 7, ground := Ground.phase }, { on := 8, ground := Ground.phase }, { on := 9, ground := Ground.phase }, { on := 10, ground := Ground.phase }, { on := 11, ground := Ground.phase }, { on := 12, ground := Ground.phase }, { on := 13, ground := Ground.phase }, { on := 14, ground := Ground.phase }, { on := 15, ground := Ground.phase }, { on := 16, ground := Ground.phase }, { on := 17, ground := Ground.phase }, { on := 18, ground := Ground.phase }, { on := 19, ground := Ground.phase }, { on := 20, ground := Ground.phase }, { on := 21, ground := Ground.phase }], guard := Option.none }) rfl (by kernel_rfl) ?_
          intro u8 hg8 hS8 K hK
          have H8 : Hid (u8.heap[z + 2]? = some (.cells #[.int .i64 (h.node.length : Int), .slice so A.length sc] 43) ∧ GJ w ⟨some ⟨nb, noff, none⟩, uo, ul, wo, dl, nc, uc, ulc, wc, dlc⟩ h z w3.heap.size (some ⟨b, 0, none⟩) mc (A ++ [((x : Int), (y : Int), (lw : Int))]) po pc (u8.setCell ⟨z + 2, 1, none⟩ (.slice po (A.length + 1) pc)) ∧ (fun w' => w'.cell? ⟨z, 0, none⟩ = some (.slice (some ⟨nb, noff, none⟩) h.node.length nc) ∧ w'.cell? ⟨nb, noff + tl, none⟩ = some (.int .u32 (x : Int)) ∧ w'.cell? ⟨nb, noff + hv, none⟩ = some (.int .u32 (y : Int)) ∧ w'.cell? ⟨bx, 0, none⟩ = some (.int .i64 (tl : Int)) ∧ w'.cell? ⟨bx, 1, none⟩ = some (.int .i64 (hv : Int)) ∧ w'.cell? ⟨by', 1, none⟩ = some (.int .u64 (lw : Int)) ∧ Hid (w'.heap[bx]? = some (.cells #[.int .i64 (tl : Int), .int .i64 (hv : Int), .int .i64 (rk : Int)] 100) ∧ w'.heap[by']? = some (.cells #[.int .u32 (lh : Int), .int .u64 (lw : Int), .int .u32 (ll : Int), .int .u32 (lr : Int)] 95))) (u8.setCell ⟨z + 2, 1, none⟩ (.slice po (A.length + 1) pc))) := by
            have e1 := (Below.block hg8 _ (some_lt H5.out.1)).trans H5.out.1
            have e2 := H5.out.2.keep (gj_up hg8 H5.out.1)
            refine ⟨e1, e2, HS5.out _ ⟨?_, ?_, e2.bx, e2.bl⟩⟩
            · exact (Below.heap_setCell _ _ _ _ (by show by' ≠ z + 2; intro e; have := HB5.out.1; rw [e, H5.out.1] at this; cases this)).trans ((Below.block hg8 _ (some_lt HB5.out.1)).trans HB5.out.1)
            · exact (Below.heap_setCell _ _ _ _ (by show bx ≠ z + 2; intro e; have := HB5.out.2.1; rw [e, H5.out.1] at this; cases this)).trans ((Below.block hg8 _ (some_lt HB5.out.2.1)).trans HB5.out.2.1)
          obtain ⟨d0, d1, f0, f1⟩ := cell_two H8.out.1
          clear hS8 hg8 H5 HB5
          go_simp
          refine hK.out _ _ H8.out.2.2 ?_
          clear hK K d0 d1 f0 f1
          try simp only [Act.put, List.setIfInBounds_toArray, List.set_cons_zero, List.set_cons_succ]
          have H9 : Hid (GJ w ⟨some ⟨nb, noff, none⟩, uo, ul, wo, dl, nc, uc, ulc, wc, dlc⟩ h z w3.heap.size (some ⟨b, 0, none⟩) mc (A ++ [((x : Int), (y : Int), (lw : Int))]) po pc (u8.setCell ⟨z + 2, 1, none⟩ (.slice po (A.length + 1) pc))) := H8.out.2.1
          generalize u8.setCell ⟨z + 2, 1, none⟩ (.slice po (A.length + 1) pc) = U9 at H9 ⊢
          clear H8
          refine wpAnyM_done (by kernel_rfl) ?_ _
          intro u9 hg9 hS9
          have HF : Hid (GJ w ⟨some ⟨nb, noff, none⟩, uo, ul, wo, dl, nc, uc, ulc, wc, dlc⟩ h z w3.heap.size (some ⟨b, 0, none⟩) mc (gArcs h ((stds h).take (k + 1))) po pc u9) := by rw [HYX.out]; exact H9.out.keep hg9
          clear hS9 hg9 H9
          go_wp2
          go_roundw
          case rel => exact ⟨k + 1, po, pc, by omega, by go_num, HF.out⟩
          case measure => simp [intOf]; omega
        · intro u1 hg1 hS1 K hK
          have hf := F1.out u1 hg1
          have F1a : Hid (∀ wx, Below (u1.alloc (.cells #[.int .i64 (x : Int), .int .i64 (y : Int), .int .i64 (lw : Int)] 63)).heap.size (u1.alloc (.cells #[.int .i64 (x : Int), .int .i64 (y : Int), .int .i64 (lw : Int)] 63)) wx → (wx.heap[by']? = some (.cells #[.int .u32 (lh : Int), .int .u64 (lw : Int), .int .u32 (ll : Int), .int .u32 (lr : Int)] 95) ∧ wx.heap[bx]? = some (.cells #[.int .i64 (tl : Int), .int .i64 (hv : Int), .int .i64 (rk : Int)] 100) ∧ GJ w ⟨some ⟨nb, noff, none⟩, uo, ul, wo, dl, nc, uc, ulc, wc, dlc⟩ h z w3.heap.size (some ⟨b, 0, none⟩) mc (gArcs h ((stds h).take k)) so sc wx) ∧ wx.heap[u1.heap.size]? = some (.cells #[.int .i64 (x : Int), .int .i64 (y : Int), .int .i64 (lw : Int)] 63)) := fun wx hx => by
            have g1 := heap_newW u1 (.cells #[.int .i64 (x : Int), .int .i64 (y : Int), .int .i64 (lw : Int)] 63)
            have g2 : Below u1.heap.size u1 (u1.alloc (.cells #[.int .i64 (x : Int), .int .i64 (y : Int), .int .i64 (lw : Int)] 63)) := (Below.refl _ _).alloc (Nat.le_refl _) _
            exact ⟨F1.out wx (btrH' hg1 (btrH' g2 hx)), (hx.block _ (some_lt g1)).trans g1⟩
          clear hS1
          go_simp
          refine hK.out _ _ (HSS.out _ (F1a.out _ (Below.refl _ _)).1) ?_
          clear hK K
          obtain ⟨g, hgg⟩ : ∃ g, u1.heap.size = g := ⟨_, rfl⟩
          rw [hgg] at F1a ⊢
          generalize u1.alloc (.cells #[.int .i64 (x : Int), .int .i64 (y : Int), .int .i64 (lw : Int)] 63) = U2 at F1a ⊢
          clear hgg hf hg1
          try simp only [Act.put, List.setIfInBounds_toArray, List.set_cons_zero, List.set_cons_succ]
          refine readyM (i := 1) (o := { dst := Option.some 25, op := Op.load 41 (Operand.tmp 24), type := 41, pos := "ref.go:166", after := #[{ on := 0, ground := Ground.data }], guard := Option.none }) rfl (by kernel_rfl) ?_
          intro u2 hg2 hS2 K hK
          have hf := F1a.out u2 hg2
          have F2 : Hid (∀ wx, Below u2.heap.size u2 wx → (wx.heap[by']? = some (.cells #[.int .u32 (lh : Int), .int .u64 (lw : Int), .int .u32 (ll : Int), .int .u32 (lr : Int)] 95) ∧ wx.heap[bx]? = some (.cells #[.int .i64 (tl : Int), .int .i64 (hv : Int), .int .i64 (rk : Int)] 100) ∧ GJ w ⟨some ⟨nb, noff, none⟩, uo, ul, wo, dl, nc, uc, ulc, wc, dlc⟩ h z w3.heap.size (some ⟨b, 0, none⟩) mc (gArcs h ((stds h).take k)) so sc wx) ∧ wx.heap[g]? = some (.cells #[.int .i64 (x : Int), .int .i64 (y : Int), .int .i64 (lw : Int)] 63)) := fun wx hx => F1a.out wx (btrH' hg2 hx)
          obtain ⟨e0, e1, _, _⟩ := cell_two hf.1.2.2.gx
          clear hS2
          go_simp
          refine hK.out _ _ (HSS.out _ hf.1) ?_
          clear hK K e0 e1 hf hg2
          try simp only [Act.put, List.setIfInBounds_toArray, List.set_cons_zero, List.set_cons_succ]
          obtain ⟨A, hA⟩ : ∃ A, gArcs h ((stds h).take k) = A := ⟨_, rfl⟩
          have HAL : A.length ≤ 262144 := by have := HGL.out k; rw [hA] at this; exact this
          rw [hA] at HYX F2 HSS ⊢
          clear hA
          refine readyM (i := 21) (o := { dst := Option.some 45, op := Op.call { callee := Callee.builtin Builtin.append, args := #[Operand.tmp 25, Operand.tmp 44], argTypes := #[41, 41] }, type := 41, pos := "ref.go:166", after := #[{ on := 1, ground := Ground.data }, { on := 20, ground := Ground.data }], guard := Option.none }) rfl (by kernel_rfl) ?_
          intro u3 hg3 hS3 K hK
          rw [if_pos (by rfl)]
          have hf := F2.out u3 hg3
          refine wp_append_own u3 _ _ 41 rfl w3.heap.size 63 i0 (.agg #[.int .i64 0, .int .i64 0, .int .i64 0]) 3 24 Tryz.underlying41 HI.out.1 HI.out.2.1 HI.out.2.2.1 HI.out.2.2.2 rfl (by decide) (.slice so A.length sc) A.length (flatA A) rfl hf.1.2.2.ow ⟨g, 0, none⟩ 1 1 (encA ((x : Int), (y : Int), (lw : Int))) rfl rfl (cells_three hf.2) (arc_one _) (by unfold maxLen; omega) (by omega) hf.1.2.2.sz ?_
          intro v5 w5 hown5 hgr5 _
          obtain ⟨po, pc, hv5⟩ := own_slice hown5
          subst hv5
          have HG5 := GJ.step HS3.out (by have := HS0.out.2; omega) hf.1.2.2 hown5 hgr5
          have H5 : Hid (w5.heap[z + 2]? = some (.cells #[.int .i64 (h.node.length : Int), .slice so A.length sc] 43) ∧ GJ w ⟨some ⟨nb, noff, none⟩, uo, ul, wo, dl, nc, uc, ulc, wc, dlc⟩ h z w3.heap.size (some ⟨b, 0, none⟩) mc (A ++ [((x : Int), (y : Int), (lw : Int))]) po pc (w5.setCell ⟨z + 2, 1, none⟩ (.slice po (A.length + 1) pc))) := ⟨HG5.1, HG5.2.1⟩
          have HB5 : Hid (w5.heap[by']? = some (.cells #[.int .u32 (lh : Int), .int .u64 (lw : Int), .int .u32 (ll : Int), .int .u32 (lr : Int)] 95) ∧ w5.heap[bx]? = some (.cells #[.int .i64 (tl : Int), .int .i64 (hv : Int), .int .i64 (rk : Int)] 100) ∧ w5.heap[z]? = some (.cells (cellsH ⟨some ⟨nb, noff, none⟩, uo, ul, wo, dl, nc, uc, ulc, wc, dlc⟩ h) 25) ∧ Below w.heap.size w w5) := ⟨HG5.2.2 _ _ hf.1.1 (fun c e => by cases e), HG5.2.2 _ _ hf.1.2.1 (fun c e => by cases e), HG5.2.2 _ _ hf.1.2.2.bx (fun c e => by cases e), below_grown hf.1.2.2.bl (own_lowO hf.1.2.2.ow (by have := HS0.out.2; have := HS3.out; omega)) hgr5 hf.1.2.2.bl.size⟩
          clear hown5 hgr5 hf hg3 hS3 F2 HG5
          have HS5 : Hid (∀ wx : World, (wx.heap[by']? = some (.cells #[.int .u32 (lh : Int), .int .u64 (lw : Int), .int .u32 (ll : Int), .int .u32 (lr : Int)] 95) ∧ wx.heap[bx]? = some (.cells #[.int .i64 (tl : Int), .int .i64 (hv : Int), .int .i64 (rk : Int)] 100) ∧ wx.heap[z]? = some (.cells (cellsH ⟨some ⟨nb, noff, none⟩, uo, ul, wo, dl, nc, uc, ulc, wc, dlc⟩ h) 25) ∧ Below w.heap.size w wx) → (fun w' => w'.cell? ⟨z, 0, none⟩ = some (.slice (some ⟨nb, noff, none⟩) h.node.length nc) ∧ w'.cell? ⟨nb, noff + tl, none⟩ = some (.int .u32 (x : Int)) ∧ w'.cell? ⟨nb, noff + hv, none⟩ = some (.int .u32 (y : Int)) ∧ w'.cell? ⟨bx, 0, none⟩ = some (.int .i64 (tl : Int)) ∧ w'.cell? ⟨bx, 1, none⟩ = some (.int .i64 (hv : Int)) ∧ w'.cell? ⟨by', 1, none⟩ = some (.int .u64 (lw : Int)) ∧ Hid (w'.heap[bx]? = some (.cells #[.int .i64 (tl : Int), .int .i64 (hv : Int), .int .i64 (rk : Int)] 100) ∧ w'.heap[by']? = some (.cells #[.int .u32 (lh : Int), .int .u64 (lw : Int), .int .u32 (ll : Int), .int .u32 (lr : Int)] 95))) wx) := fun wx hx => by
            obtain ⟨a0, a1, a2, a3, a4⟩ := five_cells hx.2.2.1
            obtain ⟨⟨e0, e1, e2⟩, _⟩ := tri_at hx.2.1
            obtain ⟨b0, b1, b2, b3⟩ := four_at hx.1
            obtain ⟨n1, n2⟩ := HNC.out wx hx.2.2.2
            exact ⟨a0, n1, n2, e0, e1, b1, hx.2.1, hx.1⟩
          refine hK.out _ _ (HS5.out _ HB5.out) ?_
          clear hK K
          try simp only [Act.put, List.setIfInBounds_toArray, List.set_cons_zero, List.set_cons_succ]
          refine wpAnyM_take (i := 22) (oi := { dst := Option.some 46, op := Op.fieldAddr 43 (Operand.tmp 3) 1, type := 0, pos := "ref.go:166", after := #[{ on := 0, ground := Ground.phase }, { on := 1, ground := Ground.phase }, { on := 2, ground := Ground.phase }, { on := 3, ground := Ground.phase }, { on := 4, ground := Ground.phase }, { on := 5, ground := Ground.phase }, { on := 6, ground := Ground.phase }, { on := 7, ground := Ground.phase }, { on := 8, ground := Ground.phase }, { on := 9, ground := Ground.phase }, { on := 10, ground := Ground.phase }, { on := 11, ground := Ground.phase }, { on := 12, ground := Ground.phase }, { on := 13, ground := Ground.phase }, { on := 14, ground := Ground.phase }, { on := 15, ground := Ground.phase }, { on := 16, ground := Ground.phase }, { on := 17, ground := Ground.phase }, { on := 18, ground := Ground.phase }, { on := 19, ground := Ground.phase }, { on := 20, ground := Ground.phase }, { on := 21, ground := Ground.phase }], guard := Option.none }) (v := ?vc21z22) rfl (by kernel_rfl) (by kernel_rfl) (by kernel_rfl) (fun _ _ _ h => h) (YieldsM.of_if (Or.inl ⟨by rfl, ?hc21z22⟩)) ?rc21z22
          case hc21z22 => ((intro wz hSw; (try dsimp only at hSw); go_simp); try (with_reducible rfl))
          try simp only [Act.put, List.setIfInBounds_toArray, List.set_cons_zero, List.set_cons_succ]
          refine readyM (i := 23) (o := { dst := Option.none, op := Op.store 41 (Operand.tmp 46) (Operand.tmp 45), type := 0, pos := "ref.go:166", after := #[{ on := 22, ground := Ground.data }, { on := 21, ground := Ground.data }, { on := 21, ground := Ground.chain }, { on := 0, ground := Ground.phase }, { on := 1, ground := Ground.phase }, { on := 2, ground := Ground.phase }, { on := 3, ground := Ground.phase }, { on := 4, ground := Ground.phase }, { on := 5, ground := Ground.phase }, { on := 6, ground := Ground.phase }, { on := 7, ground := Ground.phase }, { on := 8, ground := Ground.phase }, { on := 9, ground := Ground.phase }, { on := 10, ground := Ground.phase }, { on := 11, ground := Ground.phase }, { on := 12, ground := Ground.phase }, { on := 13, ground := Ground.phase }, { on := 14, ground := Ground.phase }, { on := 15, ground := Ground.phase }, { on := 16, ground := Ground.phase }, { on := 17, ground := Ground.phase }, { on := 18, ground := Ground.phase }, { on := 19, ground := Ground.phase }, { on := 20, ground := Ground.phase }, { on := 21, ground := Ground.phase }], guard := Option.none }) rfl (by kernel_rfl) ?_
          intro u8 hg8 hS8 K hK
          have H8 : Hid (u8.heap[z + 2]? = some (.cells #[.int .i64 (h.node.length : Int), .slice so A.length sc] 43) ∧ GJ w ⟨some ⟨nb, noff, none⟩, uo, ul, wo, dl, nc, uc, ulc, wc, dlc⟩ h z w3.heap.size (some ⟨b, 0, none⟩) mc (A ++ [((x : Int), (y : Int), (lw : Int))]) po pc (u8.setCell ⟨z + 2, 1, none⟩ (.slice po (A.length + 1) pc)) ∧ (fun w' => w'.cell? ⟨z, 0, none⟩ = some (.slice (some ⟨nb, noff, none⟩) h.node.length nc) ∧ w'.cell? ⟨nb, noff + tl, none⟩ = some (.int .u32 (x : Int)) ∧ w'.cell? ⟨nb, noff + hv, none⟩ = some (.int .u32 (y : Int)) ∧ w'.cell? ⟨bx, 0, none⟩ = some (.int .i64 (tl : Int)) ∧ w'.cell? ⟨bx, 1, none⟩ = some (.int .i64 (hv : Int)) ∧ w'.cell? ⟨by', 1, none⟩ = some (.int .u64 (lw : Int)) ∧ Hid (w'.heap[bx]? = some (.cells #[.int .i64 (tl : Int), .int .i64 (hv : Int), .int .i64 (rk : Int)] 100) ∧ w'.heap[by']? = some (.cells #[.int .u32 (lh : Int), .int .u64 (lw : Int), .int .u32 (ll : Int), .int .u32 (lr : Int)] 95))) (u8.setCell ⟨z + 2, 1, none⟩ (.slice po (A.length + 1) pc))) := by
            have e1 := (Below.block hg8 _ (some_lt H5.out.1)).trans H5.out.1
            have e2 := H5.out.2.keep (gj_up hg8 H5.out.1)
            refine ⟨e1, e2, HS5.out _ ⟨?_, ?_, e2.bx, e2.bl⟩⟩
            · exact (Below.heap_setCell _ _ _ _ (by show by' ≠ z + 2; intro e; have := HB5.out.1; rw [e, H5.out.1] at this; cases this)).trans ((Below.block hg8 _ (some_lt HB5.out.1)).trans HB5.out.1)
            · exact (Below.heap_setCell _ _ _ _ (by show bx ≠ z + 2; intro e; have := HB5.out.2.1; rw [e, H5.out.1] at this; cases this)).trans ((Below.block hg8 _ (some_lt HB5.out.2.1)).trans HB5.out.2.1)
          obtain ⟨d0, d1, f0, f1⟩ := cell_two H8.out.1
          clear hS8 hg8 H5 HB5
          go_simp
          refine hK.out _ _ H8.out.2.2 ?_
          clear hK K d0 d1 f0 f1
          try simp only [Act.put, List.setIfInBounds_toArray, List.set_cons_zero, List.set_cons_succ]
          have H9 : Hid (GJ w ⟨some ⟨nb, noff, none⟩, uo, ul, wo, dl, nc, uc, ulc, wc, dlc⟩ h z w3.heap.size (some ⟨b, 0, none⟩) mc (A ++ [((x : Int), (y : Int), (lw : Int))]) po pc (u8.setCell ⟨z + 2, 1, none⟩ (.slice po (A.length + 1) pc))) := H8.out.2.1
          generalize u8.setCell ⟨z + 2, 1, none⟩ (.slice po (A.length + 1) pc) = U9 at H9 ⊢
          clear H8
          refine wpAnyM_done (by kernel_rfl) ?_ _
          intro u9 hg9 hS9
          have HF : Hid (GJ w ⟨some ⟨nb, noff, none⟩, uo, ul, wo, dl, nc, uc, ulc, wc, dlc⟩ h z w3.heap.size (some ⟨b, 0, none⟩) mc (gArcs h ((stds h).take (k + 1))) po pc u9) := by rw [HYX.out]; exact H9.out.keep hg9
          clear hS9 hg9 H9
          go_wp2
          go_roundw
          case rel => exact ⟨k + 1, po, pc, by omega, by go_num, HF.out⟩
          case measure => simp [intOf]; omega
    · obtain rfl : k = (stds h).length := by omega
      have HK2 : Hid (GJ w ⟨no, uo, ul, wo, dl, nc, uc, ulc, wc, dlc⟩ h z w3.heap.size mo mc (gArcs h (stds h)) so sc wr) := by have g := HJ.out; rw [List.take_length] at g; exact g
      obtain ⟨L, hL⟩ : ∃ L, gArcs h (stds h) = L := ⟨_, rfl⟩
      have HLL : Hid (gArcs h (stds h) = L) := hL
      have HL9 : L.length ≤ 262144 := by have := HGL.out (stds h).length; rw [List.take_length, hL] at this; exact this
      rw [hL] at HK2
      have HCL : Hid (type_of% (HRO.out L wr so sc (arcs_own rfl HK2.out.ow) HL9)) := HRO.out L wr so sc (arcs_own rfl HK2.out.ow) HL9
      obtain ⟨g0, g1, _, _⟩ := cell_two HK2.out.gx
      clear HJ hL HL9 hk hlt
      go_wp2_with fail
      refine HCL.out.mono ?_
      rintro e w9 ⟨lo, lc, rfl, har, hnew, hb9⟩
      obtain ⟨NL, hNL⟩ : ∃ NL, normA L = NL := ⟨_, rfl⟩
      rw [hNL] at har hnew ⊢
      have HNL : Hid (normA L = NL) := hNL
      have HZ9 : Hid (w9.heap[z + 1]? = some (.cells #[.int .i64 0, .slice none 0 0] 43)) := (hb9.block _ (some_lt HK2.out.ax)).trans HK2.out.ax
      have HB9 : Hid (Below w.heap.size w w9) := HK2.out.bl.trans (hb9.mono HK2.out.bl.size)
      obtain ⟨d0, d1, f0, f1⟩ := cell_two HZ9.out
      have H9 : Hid (((w9.setCell ⟨z + 1, 0, none⟩ (.int .i64 (h.node.length : Int))).setCell ⟨z + 1, 1, none⟩ (.slice lo NL.length lc)).heap[z + 1]? = some (.cells #[.int .i64 (h.node.length : Int), .slice lo NL.length lc] 43) ∧ HasArcs ((w9.setCell ⟨z + 1, 0, none⟩ (.int .i64 (h.node.length : Int))).setCell ⟨z + 1, 1, none⟩ (.slice lo NL.length lc)) (.slice lo NL.length lc) NL ∧ NewA w.heap.size (.slice lo NL.length lc) ∧ Below w.heap.size w ((w9.setCell ⟨z + 1, 0, none⟩ (.int .i64 (h.node.length : Int))).setCell ⟨z + 1, 1, none⟩ (.slice lo NL.length lc))) := by
        have hz9 := HS0.out.2
        exact ⟨set_two HZ9.out _ _, arcs_set2 har HZ9.out _ _, fun b' off n c e => Nat.le_trans HK2.out.bl.size (hnew b' off n c e), (HB9.out.setCell (p := ⟨z + 1, 0, none⟩) (by show w.heap.size ≤ z + 1; omega) _).setCell (p := ⟨z + 1, 1, none⟩) (by show w.heap.size ≤ z + 1; omega) _⟩
      clear har hnew hb9 hNL HCL
      go_wp2
      exact bodyPost_ret (graphR_res H9.out.1 rfl) rfl ⟨lo, lc, by rw [HLL.out, HNL.out], by rw [HLL.out, HNL.out]; exact H9.out.2.1, by rw [HLL.out, HNL.out]; exact H9.out.2.2.1, H9.out.2.2.2⟩
theorem graphR_calls (v : HV) (h : Hr) (w : World) (hH : HasH w v h) (hc : chk h = (0, [])) (hm : (stds h).length ≤ 262144) :
    Calls Tryz.prog 47 #[hvl v h] w fun e w' => ∃ lo lc, e = .returned (.agg #[.int .i64 (h.node.length : Int), .slice lo (normA (gArcs h (stds h))).length lc]) ∧ HasArcs w' (.slice lo (normA (gArcs h (stds h))).length lc) (normA (gArcs h (stds h))) ∧ NewA w.heap.size (.slice lo (normA (gArcs h (stds h))).length lc) ∧ Below w.heap.size w w' :=
  graphR_aux v.no v.uo v.ul v.wo v.dl v.nc v.uc v.ulc v.wc v.dlc h w hH hc hm
end Go.Proofs.YtkehpmbnbknpfaaGreatDoor.Hi

namespace Go.Proofs.YtkehpmbnbknpfaaGreatDoor.Hi
open Go.RowKit Go.Extern Go.Shelf

attribute [local go_sem] Oper.semAt_some

/-- what Graph answers. -/
def GAns (h : Hr) (N : Int) (L : List (Int × Int × Int)) : Prop := (chk h = (0, []) ∧ N = (h.node.length : Int) ∧ L = sortE (gArcs h (stds h))) ∨ (chk h ≠ (0, []) ∧ N = 0 ∧ L = [])
theorem GAns.one {h : Hr} {N M : Int} {L K : List (Int × Int × Int)} (a : GAns h N L) (b : GAns h M K) : N = M ∧ L = K := by
  rcases a with ⟨a1, rfl, rfl⟩ | ⟨a1, rfl, rfl⟩ <;> rcases b with ⟨b1, rfl, rfl⟩ | ⟨b1, rfl, rfl⟩
  · exact ⟨rfl, rfl⟩
  · exact absurd a1 b1
  · exact absurd b1 a1
  · exact ⟨rfl, rfl⟩
theorem graph_any (v : HV) (h : Hr) (w : World) (hH : HasH w v h) (hb1 : h.up.length ≤ 1152921504606846976) (hb2 : h.dn.length ≤ 1152921504606846976) (hb3 : h.node.length ≤ 1152921504606846976) :
    Calls Tryz.prog 12 #[hvl v h] w fun e w' => ∃ N L lo c g, GAns h N L ∧ e = .returned (.tuple #[.agg #[.int .i64 N, .slice lo L.length c], g]) ∧ HasArcs w' (.slice lo L.length c) L ∧ IsTold w' (chk h) g ∧ Below w.heap.size w w' := by
  refine (graph_calls v h w hH hb1 hb2 hb3).mono ?_
  rintro e w' ⟨N, lo, k, c, u, L, rfl, hb, ha, hu⟩
  have hk : k = L.length := by obtain ⟨ao, cap, e, _⟩ := ha; injection e
  subst hk
  rcases hu with ⟨hc, rfl, rfl, rfl⟩ | ⟨hc, rfl, rfl, ht⟩
  · exact ⟨_, _, lo, c, _, Or.inl ⟨hc, rfl, rfl⟩, rfl, ha, Or.inl ⟨hc, rfl⟩, hb⟩
  · exact ⟨_, _, lo, c, _, Or.inr ⟨hc, rfl, rfl⟩, rfl, ha, ht, hb⟩
/-- what DocGraph answers. -/
def DG (h : Hr) (w : World) (e : Ending) (w' : World) : Prop := ∃ N L lo c eo ec, GAns h N L ∧ e = .returned (.tuple #[.agg #[.int .i64 N, .slice lo L.length c], .agg #[.int .i64 (chk h).1, .slice eo (chk h).2.length ec]]) ∧ HasArcs w' (.slice lo L.length c) L ∧ HasPlaces w' (.slice eo (chk h).2.length ec) (chk h).2 ∧ Below w.heap.size w w'
theorem docGraph_res {W : World} {z y : Nat} {x0 x1 y0 y1 : Value} {tmps : Array Value} (h1 : W.heap[z]? = some (.cells #[x0, x1] 43)) (h2 : W.heap[y]? = some (.cells #[y0, y1] 35)) (t2 : tmps[2]?.getD undef = .pointer (some ⟨z, 0, none⟩)) (t3 : tmps[3]?.getD undef = .pointer (some ⟨y, 0, none⟩)) :
    (results Tryz.f13 tmps).run Tryz.prog W = .ok (.tuple #[.agg #[x0, x1], .agg #[y0, y1]]) W := by
  obtain ⟨c0, c1, _, _⟩ := cell_two h1
  obtain ⟨d0, d1, _, _⟩ := cell_two h2
  simp [results, Tryz.results13, go_sem, t2, t3, c0, c1, d0, d1]

set_option maxRecDepth 100000 in
set_option maxHeartbeats 8000000 in
theorem docGraph_aux (no uo ul wo dl : Option Addr) (nc uc ulc wc dlc : Nat) (h : Hr) (w : World) (hH : HasH w ⟨no, uo, ul, wo, dl, nc, uc, ulc, wc, dlc⟩ h) (hb1 : h.up.length ≤ 1152921504606846976) (hb2 : h.dn.length ≤ 1152921504606846976) (hb3 : h.node.length ≤ 1152921504606846976) (hm : chk h = (0, []) → (stds h).length ≤ 262144) :
    Calls Tryz.prog 13 #[hvl ⟨no, uo, ul, wo, dl, nc, uc, ulc, wc, dlc⟩ h] w fun e w' => DG h w e w' := by
  obtain ⟨z, hz⟩ : ∃ z, w.heap.size = z := ⟨_, rfl⟩
  obtain ⟨W0, hW0⟩ : ∃ W0, ((w.alloc (.cells #[.slice no h.node.length nc, .slice uo h.upF.length uc, .slice ul h.up.length ulc, .slice wo h.dnF.length wc, .slice dl h.dn.length dlc] 25)).alloc (.cells #[.int .i64 0, .slice none 0 0] 43)).alloc (.cells #[.int .i64 0, .slice none 0 0] 35) = W0 := ⟨_, rfl⟩
  have hB0 : Below w.heap.size w W0 := by rw [← hW0]; exact (((Below.refl _ w).alloc (Nat.le_refl _) _).alloc (by simp) _).alloc (by simp; omega) _
  have h0 : W0.heap[z]? = some (.cells #[.slice no h.node.length nc, .slice uo h.upF.length uc, .slice ul h.up.length ulc, .slice wo h.dnF.length wc, .slice dl h.dn.length dlc] 25) := by
    rw [← hW0, ← hz]; exact (Below.heap_alloc _ _ _ (by simp; omega)).trans ((Below.heap_alloc _ _ _ (by simp)).trans (heap_newW _ _))
  have hrz : W0.heap[z + 1]? = some (.cells #[.int .i64 0, .slice none 0 0] 43) := by
    have g := heap_newW (w.alloc (.cells #[.slice no h.node.length nc, .slice uo h.upF.length uc, .slice ul h.up.length ulc, .slice wo h.dnF.length wc, .slice dl h.dn.length dlc] 25)) (.cells #[.int .i64 0, .slice none 0 0] 43)
    rw [World.size_alloc, hz] at g
    rw [← hW0]
    exact (Below.heap_alloc _ _ _ (by rw [World.size_alloc, World.size_alloc, hz]; omega)).trans g
  have h1 : W0.heap[z + 2]? = some (.cells #[.int .i64 0, .slice none 0 0] 35) := by
    have g := heap_newW ((w.alloc (.cells #[.slice no h.node.length nc, .slice uo h.upF.length uc, .slice ul h.up.length ulc, .slice wo h.dnF.length wc, .slice dl h.dn.length dlc] 25)).alloc (.cells #[.int .i64 0, .slice none 0 0] 43)) (.cells #[.int .i64 0, .slice none 0 0] 35)
    rw [World.size_alloc, World.size_alloc, hW0, hz] at g
    exact g
  have HS0 : Hid (z + 2 < W0.heap.size) := some_lt h1
  have HQ : Hid (∀ wx, Below W0.heap.size W0 wx → wx.heap[z]? = some (.cells #[.slice no h.node.length nc, .slice uo h.upF.length uc, .slice ul h.up.length ulc, .slice wo h.dnF.length wc, .slice dl h.dn.length dlc] 25) ∧ wx.heap[z + 2]? = some (.cells #[.int .i64 0, .slice none 0 0] 35) ∧ HasH wx ⟨no, uo, ul, wo, dl, nc, uc, ulc, wc, dlc⟩ h ∧ Below w.heap.size w wx ∧ wx.heap[z + 1]? = some (.cells #[.int .i64 0, .slice none 0 0] 43)) := fun wx hx => by
    have g := hB0.trans (hx.mono hB0.size)
    exact ⟨(hx.block _ (some_lt h0)).trans h0, (hx.block _ (some_lt h1)).trans h1, hH.keep g, g, (hx.block _ (some_lt hrz)).trans hrz⟩
  have HSZ : Hid (∀ (wx : World) (x y : Value), Below w.heap.size w wx → Below w.heap.size w ((wx.setCell ⟨z + 2, 0, none⟩ x).setCell ⟨z + 2, 1, none⟩ y)) := fun wx x y hx => (hx.setCell (p := ⟨z + 2, 0, none⟩) (by show w.heap.size ≤ z + 2; omega) _).setCell (p := ⟨z + 2, 1, none⟩) (by show w.heap.size ≤ z + 2; omega) _
  have HW0 : Hid (((w.alloc (.cells #[.slice no h.node.length nc, .slice uo h.upF.length uc, .slice ul h.up.length ulc, .slice wo h.dnF.length wc, .slice dl h.dn.length dlc] 25)).alloc (.cells #[.int .i64 0, .slice none 0 0] 43)).alloc (.cells #[.int .i64 0, .slice none 0 0] 35) = W0) := hW0
  have HZZ : Hid (w.heap.size = z) := hz
  have HB0 : Hid (Below W0.heap.size W0 W0) := Below.refl _ _
  have HDC : Hid (∀ wx, Below W0.heap.size W0 wx → Calls Tryz.prog 9 #[hvl ⟨no, uo, ul, wo, dl, nc, uc, ulc, wc, dlc⟩ h] wx fun e w' => RA wx (chk h) e w') := fun wx hx => docCheck10_calls _ h wx (HQ.out wx hx).2.2.1 hb1 hb2 hb3
  have HTU : Hid (chk h = (0, []) → ∀ wx, Below W0.heap.size W0 wx → Calls Tryz.prog 47 #[hvl ⟨no, uo, ul, wo, dl, nc, uc, ulc, wc, dlc⟩ h] wx fun e w' => ∃ lo lc, e = .returned (.agg #[.int .i64 (h.node.length : Int), .slice lo (normA (gArcs h (stds h))).length lc]) ∧ HasArcs w' (.slice lo (normA (gArcs h (stds h))).length lc) (normA (gArcs h (stds h))) ∧ NewA wx.heap.size (.slice lo (normA (gArcs h (stds h))).length lc) ∧ Below wx.heap.size wx w') := fun hc wx hx => graphR_calls _ h wx (HQ.out wx hx).2.2.1 hc (hm hc)
  clear hW0 h0 h1 hB0 hrz hH
  have eHV : hvl ⟨no, uo, ul, wo, dl, nc, uc, ulc, wc, dlc⟩ h = .agg #[.slice no h.node.length nc, .slice uo h.upF.length uc, .slice ul h.up.length ulc, .slice wo h.dnF.length wc, .slice dl h.dn.length dlc] := rfl
  rw [eHV] at HDC HTU ⊢
  clear eHV hm
  go_enter Tryz.func13, Tryz.ntmps13
  go_upto_region 1 with fail
  rw [HW0.out]
  clear HW0 hz
  obtain ⟨c0, c1, c2, c3, c4⟩ := five_cells (HQ.out W0 HB0.out).1
  go_wp2_with fail
  refine (HDC.out W0 HB0.out).mono ?_
  rintro e w1 ⟨lo, lc, rfl, hp, hb⟩
  obtain ⟨E, hE⟩ : ∃ E, chk h = E := ⟨_, rfl⟩
  have HE : Hid (chk h = E) := hE
  rw [hE] at hp ⊢
  obtain ⟨q, hq⟩ : ∃ q, w1.heap.size = q := ⟨_, rfl⟩
  obtain ⟨W2, hW2⟩ : ∃ W2, w1.alloc (.cells #[.int .i64 E.1, .slice lo E.2.length lc] 35) = W2 := ⟨_, rfl⟩
  have HW2 : Hid (w1.alloc (.cells #[.int .i64 E.1, .slice lo E.2.length lc] 35) = W2) := hW2
  have H2 : Hid (∀ wx, Below W2.heap.size W2 wx → wx.heap[q]? = some (.cells #[.int .i64 E.1, .slice lo E.2.length lc] 35) ∧ HasPlaces wx (.slice lo E.2.length lc) E.2 ∧ Below W0.heap.size W0 wx) := fun wx hx => by
    have g1 : W2.heap[q]? = some (.cells #[.int .i64 E.1, .slice lo E.2.length lc] 35) := by rw [← hW2, ← hq]; exact heap_newW _ _
    have g2 : Below w1.heap.size w1 W2 := by rw [← hW2]; exact (Below.refl _ _).alloc (Nat.le_refl _) _
    have g3 := btrH' g2 hx
    exact ⟨(hx.block _ (some_lt g1)).trans g1, hp.keep g3, btrH' hb g3⟩
  have HQ0 : Hid (W0.heap.size ≤ q) := by rw [← hq]; exact hb.size
  clear hp hb hW2 c0 c1 c2 c3 c4 hE
  go_upto_region 2 with fail
  rw [HW2.out]
  clear HW2 hq
  obtain ⟨q0, q1, _, _⟩ := cell_two (H2.out W2 (Below.refl _ _)).1
  go_wp2_with fail
  refine (Hi.bad_calls E.1 lo E.2.length lc W2).mono ?_
  rintro e w3 ⟨rfl, hb⟩
  rw [bad_iff]
  have HB3 : Hid (Below W2.heap.size W2 w3) := hb
  clear hb q0 q1
  by_cases hc : E = (0, [])
  · have j1 : decide (E = (0, [])) = true := by simpa using hc
    have HC : Hid (chk h = (0, [])) := by show _ = _; rw [HE.out]; exact hc
    have HTA0 : GAns h (h.node.length : Int) (normA (gArcs h (stds h))) := Or.inl ⟨HC.out, rfl, graph_norm HC.out⟩
    clear hc
    have HB4 : Hid (Below W0.heap.size W0 w3) := (H2.out w3 HB3.out).2.2
    obtain ⟨c0, c1, c2, c3, c4⟩ := five_cells (HQ.out w3 HB4.out).1
    have HGC0 := HTU.out HC.out w3 HB4.out
    obtain ⟨L, hL⟩ : ∃ L, normA (gArcs h (stds h)) = L := ⟨_, rfl⟩
    rw [hL] at HTA0 HGC0
    have HTA : Hid (GAns h (h.node.length : Int) L) := HTA0
    have HGC : Hid (type_of% HGC0) := HGC0
    clear HGC0 HTA0 hL
    go_wp2_with fail
    refine HGC.out.mono ?_
    rintro e w5 ⟨ao, ac, rfl, ha, hnew, hb⟩
    obtain ⟨_, a2, _, a4, a5⟩ := HQ.out w5 (btrH' HB4.out hb)
    obtain ⟨d0, d1, f0, f1⟩ := cell_two a5
    obtain ⟨W6, hW6⟩ : ∃ W6, ((w5.setCell ⟨z + 1, 0, none⟩ (.int .i64 (h.node.length : Int))).setCell ⟨z + 1, 1, none⟩ (.slice ao L.length ac)) = W6 := ⟨_, rfl⟩
    have e1 : W6.heap[z + 1]? = some (.cells #[.int .i64 (h.node.length : Int), .slice ao L.length ac] 43) := by rw [← hW6]; exact set_err a5 _ _
    have e2 : W6.heap[z + 2]? = some (.cells #[.int .i64 0, .slice none 0 0] 35) := by rw [← hW6]; exact (Below.heap_setCell _ _ _ _ (by show z + 2 ≠ z + 1; omega)).trans ((Below.heap_setCell _ _ _ _ (by show z + 2 ≠ z + 1; omega)).trans a2)
    have e3 : Below w.heap.size w W6 := by rw [← hW6]; exact (a4.setCell (p := ⟨z + 1, 0, none⟩) (by have := HZZ.out; show _ ≤ z + 1; omega) _).setCell (p := ⟨z + 1, 1, none⟩) (by have := HZZ.out; show _ ≤ z + 1; omega) _
    have e4 : HasArcs W6 (.slice ao L.length ac) L := by rw [← hW6]; exact arcs_set2 ha a5 _ _
    have H6 : Hid (((W6.setCell ⟨z + 2, 0, none⟩ (.int .i64 0)).setCell ⟨z + 2, 1, none⟩ (.slice none 0 0)).heap[z + 1]? = some (.cells #[.int .i64 (h.node.length : Int), .slice ao L.length ac] 43) ∧ ((W6.setCell ⟨z + 2, 0, none⟩ (.int .i64 0)).setCell ⟨z + 2, 1, none⟩ (.slice none 0 0)).heap[z + 2]? = some (.cells #[.int .i64 0, .slice none 0 0] 35) ∧ Below w.heap.size w ((W6.setCell ⟨z + 2, 0, none⟩ (.int .i64 0)).setCell ⟨z + 2, 1, none⟩ (.slice none 0 0)) ∧ HasArcs ((W6.setCell ⟨z + 2, 0, none⟩ (.int .i64 0)).setCell ⟨z + 2, 1, none⟩ (.slice none 0 0)) (.slice ao L.length ac) L) := ⟨(Below.heap_setCell _ _ _ _ (by show z + 1 ≠ z + 2; omega)).trans ((Below.heap_setCell _ _ _ _ (by show z + 1 ≠ z + 2; omega)).trans e1), set_err e2 _ _, HSZ.out _ _ _ e3, arcs_set2 e4 e2 _ _⟩
    obtain ⟨k0, k1, g0, g1⟩ := cell_two e2
    rw [← hW6] at k0 k1 g0 g1 H6
    clear ha hnew hb a2 a4 a5 hW6 c0 c1 c2 c3 c4 e1 e2 e3 e4
    go_wp2
    exact bodyPost_ret (docGraph_res H6.out.1 H6.out.2.1 rfl rfl) rfl ⟨_, L, ao, ac, none, 0, HTA.out, by rw [HC.out]; rfl, H6.out.2.2.2, by rw [HC.out]; exact pl_nil _, H6.out.2.2.1⟩
  · have j1 : decide (E = (0, [])) = false := by simpa using hc
    have HTA : Hid (GAns h 0 []) := Or.inr ⟨by rw [HE.out]; exact hc, rfl, rfl⟩
    clear hc
    go_wp2_with fail
    have HSS : Hid (∀ wx : World, wx.heap[q]? = some (.cells #[.int .i64 E.1, .slice lo E.2.length lc] 35) → (fun w' => w'.cell? ⟨q, 0, none⟩ = some (.int .i64 E.1) ∧ w'.cell? ⟨q, 1, none⟩ = some (.slice lo E.2.length lc) ∧ Hid (w'.heap[q]? = some (.cells #[.int .i64 E.1, .slice lo E.2.length lc] 35))) wx) := fun wx hx => by
      obtain ⟨b0, b1, _, _⟩ := cell_two hx
      exact ⟨b0, b1, hx⟩
    have HF : Hid (∀ wx, Below w3.heap.size w3 wx → wx.heap[q]? = some (.cells #[.int .i64 E.1, .slice lo E.2.length lc] 35) ∧ HasPlaces wx (.slice lo E.2.length lc) E.2 ∧ wx.heap[z + 1]? = some (.cells #[.int .i64 0, .slice none 0 0] 43) ∧ wx.heap[z + 2]? = some (.cells #[.int .i64 0, .slice none 0 0] 35) ∧ Below w.heap.size w wx) := fun wx hx => by
      obtain ⟨g1, g2, g3⟩ := H2.out wx (btrH' HB3.out hx)
      obtain ⟨_, a2, _, a4, a5⟩ := HQ.out wx g3
      exact ⟨g1, g2, a5, a2, a4⟩
    have HNE : Hid (q ≠ z + 1 ∧ q ≠ z + 2) := by have := HS0.out; have := HQ0.out; show q ≠ z + 1 ∧ q ≠ z + 2; omega
    refine wp_region_M (S := (fun w' => w'.cell? ⟨q, 0, none⟩ = some (.int .i64 E.1) ∧ w'.cell? ⟨q, 1, none⟩ = some (.slice lo E.2.length lc) ∧ Hid (w'.heap[q]? = some (.cells #[.int .i64 E.1, .slice lo E.2.length lc] 35)))) (by kernel_rfl) (HSS.out _ (HF.out _ (Below.refl _ _).drew).1) ?_
    refine wpAnyM_take (i := 0) (oi := { dst := Option.some 9, op := Op.build 43 #[], type := 43, pos := "ref.go:175", after := #[], guard := Option.none }) (v := ?va1z0) rfl (by kernel_rfl) (by kernel_rfl) (by kernel_rfl) (fun _ _ _ h => h) (YieldsM.of_if (Or.inl ⟨by rfl, ?ha1z0⟩)) ?ra1z0
    case ha1z0 => ((intro wz hSw; (try dsimp only at hSw); go_simp); try (with_reducible rfl))
    try simp only [Act.put, List.setIfInBounds_toArray, List.set_cons_zero, List.set_cons_succ]
    refine wpAnyM_take (i := 1) (oi := { dst := Option.some 10, op := Op.load 35 (Operand.tmp 4), type := 35, pos := "ref.go:175", after := #[{ on := 2, ground := Ground.gcOnly Departure.lateStores }], guard := Option.none }) (v := ?va2z1) rfl (by kernel_rfl) (by kernel_rfl) (by kernel_rfl) (fun _ _ _ h => h) (YieldsM.of_if (Or.inl ⟨by rfl, ?ha2z1⟩)) ?ra2z1
    case ha2z1 => ((intro wz hSw; (try dsimp only at hSw); go_simp); try (with_reducible rfl))
    try simp only [Act.put, List.setIfInBounds_toArray, List.set_cons_zero, List.set_cons_succ]
    refine readyM (i := 2) (o := { dst := Option.none, op := Op.store 43 (Operand.tmp 2) (Operand.tmp 9), type := 0, pos := "ref.go:175", after := #[{ on := 0, ground := Ground.data }, { on := 0, ground := Ground.phase }, { on := 1, ground := Ground.textOnly Departure.lateStores }], guard := Option.none }) rfl (by kernel_rfl) ?_
    intro u1 hg1 hS1 K hK
    obtain ⟨g1, g2, g3, g4, g5⟩ := HF.out u1 (btrH' (Below.refl _ _).drew hg1)
    obtain ⟨d0, d1, f0, f1⟩ := cell_two g3
    have HT : Hid (∀ wx, Below ((u1.setCell ⟨z + 1, 0, none⟩ (.int .i64 0)).setCell ⟨z + 1, 1, none⟩ (.slice none 0 0)).heap.size ((u1.setCell ⟨z + 1, 0, none⟩ (.int .i64 0)).setCell ⟨z + 1, 1, none⟩ (.slice none 0 0)) wx → wx.heap[q]? = some (.cells #[.int .i64 E.1, .slice lo E.2.length lc] 35) ∧ HasPlaces wx (.slice lo E.2.length lc) E.2 ∧ wx.heap[z + 1]? = some (.cells #[.int .i64 0, .slice none 0 0] 43) ∧ wx.heap[z + 2]? = some (.cells #[.int .i64 0, .slice none 0 0] 35) ∧ Below w.heap.size w wx) := fun wx hx => by
      have ff : ∀ k, k ≠ z + 1 → ((u1.setCell ⟨z + 1, 0, none⟩ (.int .i64 0)).setCell ⟨z + 1, 1, none⟩ (.slice none 0 0)).heap[k]? = u1.heap[k]? := fun k hk => (Below.heap_setCell _ _ _ _ (by exact hk)).trans (Below.heap_setCell _ _ _ _ (by exact hk))
      have e1 := (ff q HNE.out.1).trans g1
      have e3 := set_err g3 (.int .i64 0) (.slice none 0 0)
      have e4 := (ff (z + 2) (by omega)).trans g4
      have e2 : HasPlaces ((u1.setCell ⟨z + 1, 0, none⟩ (.int .i64 0)).setCell ⟨z + 1, 1, none⟩ (.slice none 0 0)) (.slice lo E.2.length lc) E.2 := pl_sets (F := E) g3 g2 _ _
      have e5 : Below w.heap.size w ((u1.setCell ⟨z + 1, 0, none⟩ (.int .i64 0)).setCell ⟨z + 1, 1, none⟩ (.slice none 0 0)) := (g5.setCell (p := ⟨z + 1, 0, none⟩) (by have := HZZ.out; show _ ≤ z + 1; omega) _).setCell (p := ⟨z + 1, 1, none⟩) (by have := HZZ.out; show _ ≤ z + 1; omega) _
      exact ⟨(hx.block _ (some_lt e1)).trans e1, e2.keep hx, (hx.block _ (some_lt e3)).trans e3, (hx.block _ (some_lt e4)).trans e4, e5.trans (hx.mono e5.size)⟩
    clear hS1 g1 g2 g3 g4 g5 hg1
    go_simp
    refine hK.out _ _ (HSS.out _ (HT.out _ (Below.refl _ _)).1) ?_
    clear hK K d0 d1 f0 f1
    try simp only [Act.put, List.setIfInBounds_toArray, List.set_cons_zero, List.set_cons_succ]
    generalize ((u1.setCell ⟨z + 1, 0, none⟩ (.int .i64 0)).setCell ⟨z + 1, 1, none⟩ (.slice none 0 0)) = U2 at HT ⊢
    refine readyM (i := 3) (o := { dst := Option.none, op := Op.store 35 (Operand.tmp 3) (Operand.tmp 10), type := 0, pos := "ref.go:175", after := #[{ on := 1, ground := Ground.data }, { on := 2, ground := Ground.chain }, { on := 0, ground := Ground.phase }, { on := 1, ground := Ground.phase }, { on := 2, ground := Ground.phase }], guard := Option.none }) rfl (by kernel_rfl) ?_
    intro u3 hg3 hS3 K hK
    obtain ⟨g1, g2, g3, g4, g5⟩ := HT.out u3 hg3
    obtain ⟨d0, d1, f0, f1⟩ := cell_two g4
    have HT4 : Hid (((u3.setCell ⟨z + 2, 0, none⟩ (.int .i64 E.1)).setCell ⟨z + 2, 1, none⟩ (.slice lo E.2.length lc)).heap[z + 2]? = some (.cells #[.int .i64 E.1, .slice lo E.2.length lc] 35) ∧ ((u3.setCell ⟨z + 2, 0, none⟩ (.int .i64 E.1)).setCell ⟨z + 2, 1, none⟩ (.slice lo E.2.length lc)).heap[q]? = some (.cells #[.int .i64 E.1, .slice lo E.2.length lc] 35) ∧ ((u3.setCell ⟨z + 2, 0, none⟩ (.int .i64 E.1)).setCell ⟨z + 2, 1, none⟩ (.slice lo E.2.length lc)).heap[z + 1]? = some (.cells #[.int .i64 0, .slice none 0 0] 43) ∧ HasPlaces ((u3.setCell ⟨z + 2, 0, none⟩ (.int .i64 E.1)).setCell ⟨z + 2, 1, none⟩ (.slice lo E.2.length lc)) (.slice lo E.2.length lc) E.2 ∧ Below w.heap.size w ((u3.setCell ⟨z + 2, 0, none⟩ (.int .i64 E.1)).setCell ⟨z + 2, 1, none⟩ (.slice lo E.2.length lc))) := ⟨set_err g4 _ _, (Below.heap_setCell _ _ _ _ (by exact HNE.out.2)).trans ((Below.heap_setCell _ _ _ _ (by exact HNE.out.2)).trans g1), (Below.heap_setCell _ _ _ _ (by show z + 1 ≠ z + 2; omega)).trans ((Below.heap_setCell _ _ _ _ (by show z + 1 ≠ z + 2; omega)).trans g3), pl_sets (F := E) g4 g2 _ _, HSZ.out _ _ _ g5⟩
    clear hS3 g1 g2 g3 g4 g5 hg3 HT
    go_simp
    refine hK.out _ _ (HSS.out _ HT4.out.2.1) ?_
    clear hK K d0 d1 f0 f1
    try simp only [Act.put, List.setIfInBounds_toArray, List.set_cons_zero, List.set_cons_succ]
    generalize ((u3.setCell ⟨z + 2, 0, none⟩ (.int .i64 E.1)).setCell ⟨z + 2, 1, none⟩ (.slice lo E.2.length lc)) = U4 at HT4 ⊢
    refine wpAnyM_done (by kernel_rfl) ?_ _
    intro u9 hg9 hS9
    have H9 : Hid (u9.heap[z + 1]? = some (.cells #[.int .i64 0, .slice none 0 0] 43) ∧ u9.heap[z + 2]? = some (.cells #[.int .i64 E.1, .slice lo E.2.length lc] 35) ∧ HasPlaces u9 (.slice lo E.2.length lc) E.2 ∧ Below w.heap.size w u9) := ⟨(Below.block hg9 _ (some_lt HT4.out.2.2.1)).trans HT4.out.2.2.1, (Below.block hg9 _ (some_lt HT4.out.1)).trans HT4.out.1, HT4.out.2.2.2.1.keep hg9, HT4.out.2.2.2.2.trans (hg9.mono HT4.out.2.2.2.2.size)⟩
    clear hS9 hg9 HT4
    go_wp2
    exact bodyPost_ret (docGraph_res H9.out.1 H9.out.2.1 rfl rfl) rfl ⟨0, [], none, 0, lo, lc, HTA.out, by rw [HE.out]; rfl, ⟨none, 0, rfl, fun j a hj => by simp at hj⟩, by rw [HE.out]; exact H9.out.2.2.1, H9.out.2.2.2⟩
theorem docGraph_calls (v : HV) (h : Hr) (w : World) (hH : HasH w v h) (hb1 : h.up.length ≤ 1152921504606846976) (hb2 : h.dn.length ≤ 1152921504606846976) (hb3 : h.node.length ≤ 1152921504606846976) (hm : chk h = (0, []) → (stds h).length ≤ 262144) :
    Calls Tryz.prog 13 #[hvl v h] w fun e w' => DG h w e w' :=
  docGraph_aux v.no v.uo v.ul v.wo v.dl v.nc v.uc v.ulc v.wc v.dlc h w hH hb1 hb2 hb3 hm
end Go.Proofs.YtkehpmbnbknpfaaGreatDoor.Hi

namespace Go.Proofs.YtkehpmbnbknpfaaGreatDoor.Hi
open Go.RowKit Go.Extern Go.Shelf

attribute [local go_sem] Oper.semAt_some

theorem ferr_lenY {p : Int} {f : Nat → Int} : ∀ (m k : Nat), (ferr p f k m).2.length ≤ 1
  | 0, _ => by simp [ferr]
  | m + 1, k => by
    unfold ferr
    split
    · exact ferr_lenY m (k + 1)
    · simp
theorem orE_lenY {a b : Int × List (Int × Int)} (ha : a.2.length ≤ 1) (hb : b.2.length ≤ 1) : (orE a b).2.length ≤ 1 := by
  unfold orE
  split
  · exact hb
  · exact ha
theorem cf_lenY (F : List Nat) (m : Nat) : (cf F m).2.length ≤ 1 := by
  unfold cf
  split
  · simp
  · refine orE_lenY (ferr_lenY _ _) ?_
    split <;> simp
theorem chk_places (h : Hr) : (chk h).2.length ≤ 1 := by
  unfold chk
  split
  · simp
  · split
    · simp
    · exact orE_lenY (cf_lenY _ _) (orE_lenY (cf_lenY _ _) (orE_lenY (ferr_lenY _ _) (ferr_lenY _ _)))
theorem eans_places (h : Hr) (i : Int) : (EAns h i).2.2.2.length ≤ 1 := by
  unfold EAns endsE
  split
  · split <;> simp
  · exact chk_places h
theorem keeps_setE {w : World} {b : Nat} {x y : Value} (h : w.heap[b]? = some (.cells #[x, y] 35)) (u v : Value) : Keeps w ((w.setCell ⟨b, 0, none⟩ u).setCell ⟨b, 1, none⟩ v) := fun k c hk => by
  have hne : k ≠ b := fun e => by
    subst e
    rw [h] at hk
    simp at hk
  exact (Below.heap_setCell _ _ _ _ hne).trans ((Below.heap_setCell _ _ _ _ hne).trans hk)
theorem few_of {h : Hr} (hg : greatB h = false) (hc : chk h = (0, [])) : (stds h).length ≤ 2000 := by
  obtain ⟨k1, k2, k3, k4, k5, k6, k7, k8⟩ := chk_ok hc
  rw [stds_len k5 k6]
  unfold greatB at hg
  simp at hg
  omega
theorem ranks_any (v : HV) (h : Hr) (w : World) (hH : HasH w v h) (hb1 : h.up.length ≤ 1152921504606846976) (hb2 : h.dn.length ≤ 1152921504606846976) (hb3 : h.node.length ≤ 1152921504606846976) :
    Calls Tryz.prog 15 #[hvl v h] w fun e w' => ∃ lo k c L g, KAns h L ∧ e = .returned (.tuple #[.slice lo k c, g]) ∧ HasInts w' (.slice lo k c) L ∧ (∀ a, lo = some a → w.heap.size ≤ a.block) ∧ IsTold w' (chk h) g ∧ Below w.heap.size w w' := by
  refine (ranks_calls v h w hH hb1 hb2 hb3).mono ?_
  rintro e w' ⟨lo, k, c, u, L, rfl, hb, hi, hw, hu⟩
  rcases hu with ⟨hc, rfl, rfl⟩ | ⟨hc, rfl, ht⟩
  · exact ⟨lo, k, c, _, _, Or.inl ⟨hc, rfl⟩, rfl, hi, hw, Or.inl ⟨hc, rfl⟩, hb⟩
  · exact ⟨lo, k, c, _, _, Or.inr ⟨hc, rfl⟩, rfl, hi, hw, ht, hb⟩
theorem KAns.one {h : Hr} {L K : List Int} (a : KAns h L) (b : KAns h K) : L = K := by
  rcases a with ⟨a1, rfl⟩ | ⟨a1, rfl⟩ <;> rcases b with ⟨b1, rfl⟩ | ⟨b1, rfl⟩
  · rfl
  · exact absurd a1 b1
  · exact absurd b1 a1
  · rfl
theorem KAns.few {h : Hr} {L : List Int} (a : KAns h L) : L.length ≤ maxLen := by
  rcases a with ⟨hc, rfl⟩ | ⟨_, rfl⟩
  · obtain ⟨k1, _⟩ := chk_ok hc
    unfold intsL
    rw [List.length_map, rkM_len]
    exact Nat.le_trans k1 (by decide)
  · exact Nat.le_trans (Nat.zero_le 1) (by decide)
theorem GAns.few {h : Hr} {N : Int} {L : List (Int × Int × Int)} (a : GAns h N L) : L.length ≤ maxLen := by
  rcases a with ⟨hc, _, rfl⟩ | ⟨_, _, rfl⟩
  · obtain ⟨k1, k2, k3, k4, k5, k6, k7, k8⟩ := chk_ok hc
    rw [sortE_len]
    have := gArcs_len h (stds h)
    rw [stds_len k5 k6] at this
    have e : (1048576 : Nat) ≤ maxLen := by decide
    omega
  · exact Nat.le_trans (Nat.zero_le 1) (by decide)
theorem TAns.short {h H : Hr} (a : TAns h H) (s : Short h) : Short H := by
  rcases a with ⟨_, rfl⟩ | ⟨_, rfl⟩
  · unfold turnH
    obtain ⟨s1, s2, s3, s4, s5⟩ := s
    exact ⟨s1, s4, by simpa using s5, s2, by simpa using s3⟩
  · unfold noH
    exact ⟨Nat.zero_le _, Nat.zero_le _, Nat.zero_le _, Nat.zero_le _, Nat.zero_le _⟩

theorem ints_err {w : World} {b : Nat} {lo : Option Addr} {k c : Nat} {L : List Int} (hne : ∀ a, lo = some a → a.block ≠ b) (hi : HasInts w (.slice lo k c) L) (u y : Value) : HasInts ((w.setCell ⟨b, 0, none⟩ u).setCell ⟨b, 1, none⟩ y) (.slice lo k c) L := by
  obtain ⟨ao, cap, e, hc⟩ := hi
  refine ⟨ao, cap, e, fun j a hj => ?_⟩
  obtain ⟨b', off, ea, hl, h0⟩ := hc j a hj
  injection e with e1 _ _
  have hbb : b' ≠ b := hne _ (e1.trans ea)
  refine ⟨b', off, ea, by simpa [World.setCell] using hl, ?_⟩
  rw [World.cell?_setCell_other _ _ _ _ (by intro q; simp only [Addr.mk.injEq] at q; exact hbb q.1.symm), World.cell?_setCell_other _ _ _ _ (by intro q; simp only [Addr.mk.injEq] at q; exact hbb q.1.symm)]
  exact h0
theorem cell_err {w : World} {b b' o : Nat} {x : Int} {s1 : Option Addr} {s2 s3 : Nat} {T : TypeId} {v : Value} (hb : w.heap[b]? = some (.cells #[.int .i64 x, .slice s1 s2 s3] T)) (hc : w.cell? ⟨b', o, none⟩ = some v) (h1 : ∀ i, v ≠ .int .i64 i) (h2 : ∀ a p q, v ≠ .slice a p q) (u y : Value) : ((w.setCell ⟨b, 0, none⟩ u).setCell ⟨b, 1, none⟩ y).cell? ⟨b', o, none⟩ = some v := by
  have hbb : b' ≠ b := fun e => by
    subst e
    simp only [World.cell?, hb] at hc
    rcases o with _ | _ | o
    · simp at hc; exact h1 _ hc.symm
    · simp at hc; exact h2 _ _ _ hc.symm
    · simp at hc
  rw [World.cell?_setCell_other _ _ _ _ (by intro q; simp only [Addr.mk.injEq] at q; exact hbb q.1.symm), World.cell?_setCell_other _ _ _ _ (by intro q; simp only [Addr.mk.injEq] at q; exact hbb q.1.symm)]
  exact hc
theorem ws_err {w : World} {b : Nat} {x : Int} {s1 : Option Addr} {s2 s3 : Nat} {T : TypeId} {v : Value} {L : List Nat} (hb : w.heap[b]? = some (.cells #[.int .i64 x, .slice s1 s2 s3] T)) (hi : HasWs w v L) (u y : Value) : HasWs ((w.setCell ⟨b, 0, none⟩ u).setCell ⟨b, 1, none⟩ y) v L := by
  obtain ⟨ao, cap, e, hcap, hc⟩ := hi
  refine ⟨ao, cap, e, hcap, fun j a hj => ?_⟩
  obtain ⟨ha, b', off, ea, hl, h0⟩ := hc j a hj
  exact ⟨ha, b', off, ea, by simpa [World.setCell] using hl, cell_err hb h0 (fun i q => by cases q) (fun _ _ _ q => by cases q) u y⟩
theorem ls_err {w : World} {b : Nat} {x : Int} {s1 : Option Addr} {s2 s3 : Nat} {T : TypeId} {v : Value} {L : List Lk} (hb : w.heap[b]? = some (.cells #[.int .i64 x, .slice s1 s2 s3] T)) (hi : HasLs w v L) (u y : Value) : HasLs ((w.setCell ⟨b, 0, none⟩ u).setCell ⟨b, 1, none⟩ y) v L := by
  obtain ⟨ao, cap, e, hcap, hc⟩ := hi
  refine ⟨ao, cap, e, hcap, fun j a hj => ?_⟩
  obtain ⟨ha, b', off, ea, hl, h0, h1, h2, h3⟩ := hc j a hj
  have key : ∀ {o : Nat} {v : Value}, w.cell? ⟨b', o, none⟩ = some v → (∀ i, v ≠ .int .i64 i) → (∀ a p q, v ≠ .slice a p q) → ((w.setCell ⟨b, 0, none⟩ u).setCell ⟨b, 1, none⟩ y).cell? ⟨b', o, none⟩ = some v := fun hc h1 h2 => cell_err hb hc h1 h2 u y
  exact ⟨ha, b', off, ea, by simpa [World.setCell] using hl, key h0 (fun i q => by cases q) (fun _ _ _ q => by cases q), key h1 (fun i q => by cases q) (fun _ _ _ q => by cases q), key h2 (fun i q => by cases q) (fun _ _ _ q => by cases q), key h3 (fun i q => by cases q) (fun _ _ _ q => by cases q)⟩
theorem has_err {w : World} {b : Nat} {x : Int} {s1 : Option Addr} {s2 s3 : Nat} {v : HV} {h : Hr} {T : TypeId} (hb : w.heap[b]? = some (.cells #[.int .i64 x, .slice s1 s2 s3] T)) (hi : HasH w v h) (u y : Value) : HasH ((w.setCell ⟨b, 0, none⟩ u).setCell ⟨b, 1, none⟩ y) v h :=
  ⟨ws_err hb hi.node u y, ws_err hb hi.upF u y, ls_err hb hi.up u y, ws_err hb hi.dnF u y, ls_err hb hi.dn u y⟩

set_option maxRecDepth 100000 in
set_option maxHeartbeats 8000000 in
theorem checks_aux (no uo ul wo dl : Option Addr) (nc uc ulc wc dlc : Nat) (h : Hr) (i : Int) (w : World) (hty : HasType w) (hH : HasH w ⟨no, uo, ul, wo, dl, nc, uc, ulc, wc, dlc⟩ h) (hr : Reach h) :
    Calls Tryz.prog 3 #[hvl ⟨no, uo, ul, wo, dl, nc, uc, ulc, wc, dlc⟩ h, .int .i64 i] w fun e w' => e = .returned (.bool true) ∧ Below w.heap.size w w' := by
  have hb1 : h.up.length ≤ 1152921504606846976 := by have := hr.up; omega
  have hb2 : h.dn.length ≤ 1152921504606846976 := by have := hr.dn; omega
  have hb3 : h.node.length ≤ 1152921504606846976 := by have := hr.node; omega
  have HTY : Hid (∀ wx, Below w.heap.size w wx → HasType wx) := fun wx h => hty.keep h hty.pos
  obtain ⟨z, hz⟩ : ∃ z, w.heap.size = z := ⟨_, rfl⟩
  obtain ⟨W0, hW0⟩ : ∃ W0, w.alloc (.cells #[.slice no h.node.length nc, .slice uo h.upF.length uc, .slice ul h.up.length ulc, .slice wo h.dnF.length wc, .slice dl h.dn.length dlc] 25) = W0 := ⟨_, rfl⟩
  have HQ : Hid (∀ wx, Below W0.heap.size W0 wx → (wx.cell? ⟨z, 0, none⟩ = some (.slice no h.node.length nc) ∧ wx.cell? ⟨z, 1, none⟩ = some (.slice uo h.upF.length uc) ∧ wx.cell? ⟨z, 2, none⟩ = some (.slice ul h.up.length ulc) ∧ wx.cell? ⟨z, 3, none⟩ = some (.slice wo h.dnF.length wc) ∧ wx.cell? ⟨z, 4, none⟩ = some (.slice dl h.dn.length dlc)) ∧ HasH wx ⟨no, uo, ul, wo, dl, nc, uc, ulc, wc, dlc⟩ h ∧ Below w.heap.size w wx ∧ wx.heap[z]? = some (.cells #[.slice no h.node.length nc, .slice uo h.upF.length uc, .slice ul h.up.length ulc, .slice wo h.dnF.length wc, .slice dl h.dn.length dlc] 25)) := fun wx hx => by
    have h1 : W0.heap[z]? = some (.cells #[.slice no h.node.length nc, .slice uo h.upF.length uc, .slice ul h.up.length ulc, .slice wo h.dnF.length wc, .slice dl h.dn.length dlc] 25) := by rw [← hW0, ← hz]; exact heap_newW _ _
    have h2 : Below w.heap.size w W0 := by rw [← hW0]; exact (Below.refl _ _).alloc (Nat.le_refl _) _
    have h3 := btrH' h2 hx
    have h4 := (hx.block _ (some_lt h1)).trans h1
    exact ⟨five_cells h4, hH.keep h3, h3, h4⟩
  have HW0 : Hid (w.alloc (.cells #[.slice no h.node.length nc, .slice uo h.upF.length uc, .slice ul h.up.length ulc, .slice wo h.dnF.length wc, .slice dl h.dn.length dlc] 25) = W0) := hW0
  obtain ⟨E, hE⟩ : ∃ E, chk h = E := ⟨_, rfl⟩
  obtain ⟨⟨x, y, F⟩, hF⟩ : ∃ t, EAns h i = t := ⟨_, rfl⟩
  have HEL : Hid (E.2.length ≤ maxLen) := Nat.le_trans (by rw [← hE]; exact chk_places h) (by decide)
  have HFL : Hid (F.2.length ≤ maxLen) := Nat.le_trans (by have := eans_places h i; rw [hF] at this; exact this) (by decide)
  have HGR : Hid (∀ wx, Calls Tryz.prog 5 #[hvl ⟨no, uo, ul, wo, dl, nc, uc, ulc, wc, dlc⟩ h] wx fun e w' => e = .returned (.bool (greatB h)) ∧ Below wx.heap.size wx w') := fun wx => great_calls _ h wx hb1 hb2
  have HTW : Hid (∀ wx, Below W0.heap.size W0 wx → Calls Tryz.prog 8 #[hvl ⟨no, uo, ul, wo, dl, nc, uc, ulc, wc, dlc⟩ h] wx fun e w' => ∃ u, e = .returned (hvl u h) ∧ HasH w' u h ∧ Below wx.heap.size wx w') := fun wx hx => twin_calls _ h wx (HQ.out wx hx).2.1 hr
  have HCK : Hid (∀ (u : HV) (wx : World), HasH wx u h → Calls Tryz.prog 7 #[hvl u h] wx fun e w' => ∃ g, e = .returned g ∧ IsTold w' E g ∧ Below wx.heap.size wx w') := fun u wx hx => by rw [← hE]; exact check_calls u h wx hx hb1 hb2 hb3
  have HEN : Hid (∀ (u : HV) (wx : World), HasH wx u h → Calls Tryz.prog 10 #[hvl u h, .int .i64 i] wx fun e w' => ∃ g, e = .returned (.tuple #[.int .i64 x, .int .i64 y, g]) ∧ IsTold w' F g ∧ Below wx.heap.size wx w') := fun u wx hx => by
    have g := ends_any u h i wx hx hb1 hb2 hb3
    rw [hF] at g
    exact g
  have HGP : Hid (∀ (u : HV) (wx : World), HasH wx u h → Calls Tryz.prog 12 #[hvl u h] wx fun e w' => ∃ N L lo c g, GAns h N L ∧ e = .returned (.tuple #[.agg #[.int .i64 N, .slice lo L.length c], g]) ∧ HasArcs w' (.slice lo L.length c) L ∧ IsTold w' E g ∧ Below wx.heap.size wx w') := fun u wx hx => by rw [← hE]; exact graph_any u h wx hx hb1 hb2 hb3
  have HRP : Hid (∀ (u : HV) (wx : World), HasH wx u h → Calls Tryz.prog 15 #[hvl u h] wx fun e w' => ∃ lo k c L g, KAns h L ∧ e = .returned (.tuple #[.slice lo k c, g]) ∧ HasInts w' (.slice lo k c) L ∧ (∀ a, lo = some a → wx.heap.size ≤ a.block) ∧ IsTold w' E g ∧ Below wx.heap.size wx w') := fun u wx hx => by rw [← hE]; exact ranks_any u h wx hx hb1 hb2 hb3
  have HTP : Hid (∀ (u : HV) (wx : World), HasH wx u h → Calls Tryz.prog 18 #[hvl u h] wx fun e w' => ∃ v H g, TAns h H ∧ e = .returned (.tuple #[hvl v H, g]) ∧ HasH w' v H ∧ IsTold w' E g ∧ Below wx.heap.size wx w') := fun u wx hx => by rw [← hE]; exact turn_any u h wx hx hb1 hb2 hb3
  have HDC : Hid (∀ wx, Below W0.heap.size W0 wx → Calls Tryz.prog 9 #[hvl ⟨no, uo, ul, wo, dl, nc, uc, ulc, wc, dlc⟩ h] wx fun e w' => RA wx E e w') := fun wx hx => by rw [← hE]; exact docCheck10_calls _ h wx (HQ.out wx hx).2.1 hb1 hb2 hb3
  have HDE : Hid (∀ wx, Below W0.heap.size W0 wx → Calls Tryz.prog 11 #[hvl ⟨no, uo, ul, wo, dl, nc, uc, ulc, wc, dlc⟩ h, .int .i64 i] wx fun e w' => ∃ lo lc, e = .returned (.tuple #[.int .i64 x, .int .i64 y, .agg #[.int .i64 F.1, .slice lo F.2.length lc]]) ∧ HasPlaces w' (.slice lo F.2.length lc) F.2 ∧ Below wx.heap.size wx w') := fun wx hx => by
    have g := docEnds_calls _ h i wx (HQ.out wx hx).2.1 hb1 hb2 hb3
    unfold DE at g
    rw [hF] at g
    exact g
  have HDG : Hid (greatB h = false → ∀ wx, Below W0.heap.size W0 wx → Calls Tryz.prog 13 #[hvl ⟨no, uo, ul, wo, dl, nc, uc, ulc, wc, dlc⟩ h] wx fun e w' => ∃ N L lo c eo ec, GAns h N L ∧ e = .returned (.tuple #[.agg #[.int .i64 N, .slice lo L.length c], .agg #[.int .i64 E.1, .slice eo E.2.length ec]]) ∧ HasArcs w' (.slice lo L.length c) L ∧ HasPlaces w' (.slice eo E.2.length ec) E.2 ∧ Below wx.heap.size wx w') := fun hg wx hx => by rw [← hE]; exact docGraph_calls _ h wx (HQ.out wx hx).2.1 hb1 hb2 hb3 (fun hc => Nat.le_trans (few_of hg hc) (by decide))
  have HDR : Hid (∀ wx, Below W0.heap.size W0 wx → Calls Tryz.prog 16 #[hvl ⟨no, uo, ul, wo, dl, nc, uc, ulc, wc, dlc⟩ h] wx fun e w' => ∃ ao k c L lo lc, KAns h L ∧ e = .returned (.tuple #[.slice ao k c, .agg #[.int .i64 E.1, .slice lo E.2.length lc]]) ∧ HasInts w' (.slice ao k c) L ∧ HasPlaces w' (.slice lo E.2.length lc) E.2 ∧ (∀ a, ao = some a → wx.heap.size ≤ a.block) ∧ Below wx.heap.size wx w') := fun wx hx => by rw [← hE]; exact docRanks_calls _ h wx (HQ.out wx hx).2.1 hb1 hb2 hb3
  have HDT : Hid (∀ wx, Below W0.heap.size W0 wx → Calls Tryz.prog 19 #[hvl ⟨no, uo, ul, wo, dl, nc, uc, ulc, wc, dlc⟩ h] wx fun e w' => ∃ u H lo lc, TAns h H ∧ e = .returned (.tuple #[hvl u H, .agg #[.int .i64 E.1, .slice lo E.2.length lc]]) ∧ HasH w' u H ∧ HasPlaces w' (.slice lo E.2.length lc) E.2 ∧ Below wx.heap.size wx w') := fun wx hx => by rw [← hE]; exact docTurn_calls _ h wx (HQ.out wx hx).2.1 hb1 hb2 hb3
  have HSH : Hid (Short h) := hr.short
  clear hW0 hH hty hr hE hF
  have eHV : hvl ⟨no, uo, ul, wo, dl, nc, uc, ulc, wc, dlc⟩ h = .agg #[.slice no h.node.length nc, .slice uo h.upF.length uc, .slice ul h.up.length ulc, .slice wo h.dnF.length wc, .slice dl h.dn.length dlc] := rfl
  rw [eHV] at HGR HTW HDC HDE HDG HDR HDT ⊢
  clear eHV
  go_enter Tryz.func3, Tryz.ntmps3
  go_wp2_with fail
  rw [HW0.out]
  clear HW0
  refine (awake10_calls W0).mono ?_
  rintro e w1 ⟨rfl, hb⟩
  have HB1 : Hid (Below W0.heap.size W0 w1) := hb
  clear hb
  obtain ⟨c0, c1, c2, c3, c4⟩ := (HQ.out w1 HB1.out).1
  go_wp2_with fail
  refine (HGR.out w1).mono ?_
  rintro e w2 ⟨rfl, hb⟩
  have HB2 : Hid (Below W0.heap.size W0 w2) := btrH' HB1.out hb
  clear hb c0 c1 c2 c3 c4
  by_cases hgr : greatB h = true
  · rw [hgr]
    go_wp2
    go_ret
    exact ⟨rfl, (HQ.out w2 HB2.out).2.2.1⟩
  rw [Bool.not_eq_true] at hgr
  rw [hgr]
  have HGB : Hid (greatB h = false) := hgr
  clear hgr
  go_wp2_with fail
  have HSS : Hid (∀ wx : World, wx.heap[z]? = some (.cells #[.slice no h.node.length nc, .slice uo h.upF.length uc, .slice ul h.up.length ulc, .slice wo h.dnF.length wc, .slice dl h.dn.length dlc] 25) → (fun w' => w'.cell? ⟨z, 0, none⟩ = some (.slice no h.node.length nc) ∧ w'.cell? ⟨z, 1, none⟩ = some (.slice uo h.upF.length uc) ∧ w'.cell? ⟨z, 2, none⟩ = some (.slice ul h.up.length ulc) ∧ w'.cell? ⟨z, 3, none⟩ = some (.slice wo h.dnF.length wc) ∧ w'.cell? ⟨z, 4, none⟩ = some (.slice dl h.dn.length dlc) ∧ Hid (w'.heap[z]? = some (.cells #[.slice no h.node.length nc, .slice uo h.upF.length uc, .slice ul h.up.length ulc, .slice wo h.dnF.length wc, .slice dl h.dn.length dlc] 25))) wx) := fun wx hx => by
    obtain ⟨b0, b1, b2, b3, b4⟩ := five_cells hx
    exact ⟨b0, b1, b2, b3, b4, hx⟩
  have Gw2 : Hid (∀ wx, Below w2.drew.heap.size w2.drew wx → Below W0.heap.size W0 wx) := fun wx hx => btrH' HB2.out (btrH' (Below.refl _ _).drew hx)
  refine wp_region_M (S := (fun w' => w'.cell? ⟨z, 0, none⟩ = some (.slice no h.node.length nc) ∧ w'.cell? ⟨z, 1, none⟩ = some (.slice uo h.upF.length uc) ∧ w'.cell? ⟨z, 2, none⟩ = some (.slice ul h.up.length ulc) ∧ w'.cell? ⟨z, 3, none⟩ = some (.slice wo h.dnF.length wc) ∧ w'.cell? ⟨z, 4, none⟩ = some (.slice dl h.dn.length dlc) ∧ Hid (w'.heap[z]? = some (.cells #[.slice no h.node.length nc, .slice uo h.upF.length uc, .slice ul h.up.length ulc, .slice wo h.dnF.length wc, .slice dl h.dn.length dlc] 25)))) (by kernel_rfl) (HSS.out _ (HQ.out _ (Gw2.out _ (Below.refl _ _))).2.2.2) ?_
  refine wpAnyM_take (i := 0) (oi := { dst := Option.some 21, op := Op.load 25 (Operand.tmp 2), type := 25, pos := "law.go:33", after := #[], guard := Option.none }) (v := ?vr1z0) rfl (by kernel_rfl) (by kernel_rfl) (by kernel_rfl) (fun _ _ _ h => h) (YieldsM.of_if (Or.inl ⟨by rfl, ?hr1z0⟩)) ?rr1z0
  case hr1z0 => ((intro wz hSw; (try dsimp only at hSw); go_simp); try (with_reducible rfl))
  try simp only [Act.put, List.setIfInBounds_toArray, List.set_cons_zero, List.set_cons_succ]
  refine wpAnyM_take (i := 3) (oi := { dst := Option.some 24, op := Op.load 25 (Operand.tmp 2), type := 25, pos := "law.go:33", after := #[], guard := Option.none }) (v := ?vr2z3) rfl (by kernel_rfl) (by kernel_rfl) (by kernel_rfl) (fun _ _ _ h => h) (YieldsM.of_if (Or.inl ⟨by rfl, ?hr2z3⟩)) ?rr2z3
  case hr2z3 => ((intro wz hSw; (try dsimp only at hSw); go_simp); try (with_reducible rfl))
  try simp only [Act.put, List.setIfInBounds_toArray, List.set_cons_zero, List.set_cons_succ]
  refine readyM (i := 1) (o := { dst := Option.some 22, op := Op.call { callee := Callee.value (Operand.func 8), args := #[Operand.tmp 21], argTypes := #[25] }, type := 25, pos := "law.go:33", after := #[{ on := 0, ground := Ground.data }], guard := Option.none }) rfl (by kernel_rfl) ?_
  intro u1 hg1 hS1 K hK
  have hf := Gw2.out u1 hg1
  clear hS1
  go_simp
  refine (HTW.out u1 hf).mono ?_
  rintro e v1 ⟨tv, rfl, hh, hb⟩
  go_wp2_with fail
  have Gv1 : Hid (∀ wx, Below v1.heap.size v1 wx → Below W0.heap.size W0 wx ∧ HasH wx tv h) := fun wx hx => by
    have gx := btrH' hg1 (btrH' hb hx)
    exact ⟨(Gw2.out wx gx), hh.keep hx⟩
  refine hK.out _ _ (HSS.out _ (HQ.out _ (Gv1.out _ (Below.refl _ _)).1).2.2.2) ?_
  clear hK K hf hg1 hb hh
  try simp only [Act.put, List.setIfInBounds_toArray, List.set_cons_zero, List.set_cons_succ]
  refine readyM (i := 2) (o := { dst := Option.some 23, op := Op.call { callee := Callee.value (Operand.func 7), args := #[Operand.tmp 22], argTypes := #[25] }, type := 30, pos := "law.go:33", after := #[{ on := 1, ground := Ground.data }, { on := 1, ground := Ground.chain }], guard := Option.none }) rfl (by kernel_rfl) ?_
  intro u2 hg2 hS2 K hK
  have hf := Gv1.out u2 hg2
  clear hS2
  go_simp
  refine (HCK.out tv u2 hf.2).mono ?_
  rintro e v2 ⟨g0, rfl, hh, hb⟩
  go_wp2_with fail
  have Gv2 : Hid (∀ wx, Below v2.heap.size v2 wx → Below W0.heap.size W0 wx ∧ HasH wx tv h ∧ IsTold wx E g0) := fun wx hx => by
    have gx := btrH' hg2 (btrH' hb hx)
    exact ⟨(Gv1.out wx gx).1, (Gv1.out wx gx).2, hh.keep (Below.keeps hx)⟩
  refine hK.out _ _ (HSS.out _ (HQ.out _ (Gv2.out _ (Below.refl _ _)).1).2.2.2) ?_
  clear hK K hf hg2 hb hh
  try simp only [Act.put, List.setIfInBounds_toArray, List.set_cons_zero, List.set_cons_succ]
  refine readyM (i := 4) (o := { dst := Option.some 25, op := Op.call { callee := Callee.value (Operand.func 9), args := #[Operand.tmp 24], argTypes := #[25] }, type := 35, pos := "law.go:33", after := #[{ on := 3, ground := Ground.data }, { on := 2, ground := Ground.chain }], guard := Option.none }) rfl (by kernel_rfl) ?_
  intro u3 hg3 hS3 K hK
  have hf := Gv2.out u3 hg3
  clear hS3
  go_simp
  refine (HDC.out u3 hf.1).mono ?_
  rintro e v3 ⟨lo0, lc0, rfl, hh, hb⟩
  go_wp2_with fail
  have Gv3 : Hid (∀ wx, Below v3.heap.size v3 wx → Below W0.heap.size W0 wx ∧ HasH wx tv h ∧ IsTold wx E g0 ∧ HasPlaces wx (.slice lo0 E.2.length lc0) E.2) := fun wx hx => by
    have gx := btrH' hg3 (btrH' hb hx)
    exact ⟨(Gv2.out wx gx).1, (Gv2.out wx gx).2.1, (Gv2.out wx gx).2.2, hh.keep hx⟩
  refine hK.out _ _ (HSS.out _ (HQ.out _ (Gv3.out _ (Below.refl _ _)).1).2.2.2) ?_
  clear hK K hf hg3 hb hh
  try simp only [Act.put, List.setIfInBounds_toArray, List.set_cons_zero, List.set_cons_succ]
  refine readyM (i := 5) (o := { dst := Option.some 26, op := Op.call { callee := Callee.value (Operand.func 6), args := #[Operand.tmp 23, Operand.tmp 25], argTypes := #[30, 35] }, type := 4, pos := "law.go:33", after := #[{ on := 2, ground := Ground.data }, { on := 4, ground := Ground.data }, { on := 4, ground := Ground.chain }], guard := Option.none }) rfl (by kernel_rfl) ?_
  intro u4 hg4 hS4 K hK
  have hf := Gv3.out u4 hg4
  clear hS4
  go_simp
  refine (seen_told E g0 lo0 lc0 u4 hf.2.2.1 hf.2.2.2 HEL.out (HTY.out _ (HQ.out _ hf.1).2.2.1)).mono ?_
  rintro e v4 ⟨rfl, hb⟩
  go_wp2_with fail
  have Gz : Hid (∀ wx, Below v4.heap.size v4 wx → Below W0.heap.size W0 wx) := fun wx hx => (Gv3.out wx (btrH' hg4 (btrH' hb hx))).1
  refine hK.out _ _ (HSS.out _ (HQ.out _ (Gz.out _ (Below.refl _ _))).2.2.2) ?_
  clear hK K hf hg4 hb Gv3
  try simp only [Act.put, List.setIfInBounds_toArray, List.set_cons_zero, List.set_cons_succ]
  refine wpAnyM_take (i := 6) (oi := { dst := Option.some 27, op := Op.unOp UnOp.not 4 (Operand.tmp 26), type := 4, pos := "law.go:33", after := #[{ on := 5, ground := Ground.data }], guard := Option.none }) (v := ?vw43z6) rfl (by kernel_rfl) (by kernel_rfl) (by kernel_rfl) (fun _ _ _ h => h) (YieldsM.of_if (Or.inl ⟨by rfl, ?hw43z6⟩)) ?rw43z6
  case hw43z6 => ((intro wz hSw; (try dsimp only at hSw); go_simp); try (with_reducible rfl))
  try simp only [Act.put, List.setIfInBounds_toArray, List.set_cons_zero, List.set_cons_succ]
  refine wpAnyM_done (by kernel_rfl) ?_ _
  intro x0 hg9 hS9
  have HX0 : Hid (∀ wx, Below x0.heap.size x0 wx → Below W0.heap.size W0 wx) := fun wx hx => Gz.out wx (btrH' hg9 hx)
  clear hS9 hg9 Gz
  obtain ⟨c0, c1, c2, c3, c4⟩ := (HQ.out x0 (HX0.out x0 (Below.refl _ _))).1
  go_wp2_with fail
  refine (HTW.out x0 (HX0.out x0 (Below.refl _ _))).mono ?_
  rintro e a1 ⟨u1, rfl, hh, hb⟩
  have HA1 : Hid (∀ wx, Below a1.heap.size a1 wx → Below W0.heap.size W0 wx) := fun wx hx => HX0.out wx (btrH' hb hx)
  clear hb c0 c1 c2 c3 c4
  go_wp2_with fail
  refine (HEN.out u1 a1 hh).mono ?_
  rintro e b1 ⟨g1, rfl, ht, hb⟩
  have HF1 : Hid (∀ wx, Below b1.heap.size b1 wx → Below W0.heap.size W0 wx ∧ IsTold wx F g1) := fun wx hx => ⟨HA1.out wx (btrH' hb hx), ht.keep (Below.keeps hx)⟩
  clear hh hb ht
  obtain ⟨c0, c1, c2, c3, c4⟩ := (HQ.out b1 (HF1.out b1 (Below.refl _ _)).1).1
  go_wp2_with fail
  refine (HDE.out b1 (HF1.out b1 (Below.refl _ _)).1).mono ?_
  rintro e d1 ⟨lo1, lc1, rfl, hp, hb⟩
  obtain ⟨q, hq⟩ : ∃ q, d1.heap.size = q := ⟨_, rfl⟩
  obtain ⟨V1, hV1⟩ : ∃ V1, d1.alloc (.cells #[.int .i64 F.1, .slice lo1 F.2.length lc1] 35) = V1 := ⟨_, rfl⟩
  have HV1 : Hid (d1.alloc (.cells #[.int .i64 F.1, .slice lo1 F.2.length lc1] 35) = V1) := hV1
  have HG1 : Hid (∀ wx, Below V1.heap.size V1 wx → (wx.heap[q]? = some (.cells #[.int .i64 F.1, .slice lo1 F.2.length lc1] 35) ∧ Below W0.heap.size W0 wx) ∧ IsTold wx F g1 ∧ HasPlaces wx (.slice lo1 F.2.length lc1) F.2) := fun wx hx => by
    have e1 : V1.heap[q]? = some (.cells #[.int .i64 F.1, .slice lo1 F.2.length lc1] 35) := by rw [← hV1, ← hq]; exact heap_newW _ _
    have e2 : Below d1.heap.size d1 V1 := by rw [← hV1]; exact (Below.refl _ _).alloc (Nat.le_refl _) _
    have e3 := btrH' e2 hx
    obtain ⟨r1, r2⟩ := HF1.out wx (btrH' hb e3)
    exact ⟨⟨(hx.block _ (some_lt e1)).trans e1, r1⟩, r2, hp.keep e3⟩
  have HQ1 : Hid (W0.heap.size ≤ q) := by rw [← hq]; exact (HF1.out d1 hb).1.size
  clear hp hb hV1 c0 c1 c2 c3 c4
  go_upto_region 9 with fail
  rw [HV1.out]
  clear HV1 hq
  obtain ⟨q0, q1, _, _⟩ := cell_two (HG1.out V1 (Below.refl _ _)).1.1
  go_wp2_with fail
  refine (seen_told F g1 lo1 lc1 V1 (HG1.out _ (Below.refl _ _)).2.1 (HG1.out _ (Below.refl _ _)).2.2 HFL.out (HTY.out _ (HQ.out _ (HG1.out _ (Below.refl _ _)).1.2).2.2.1)).mono ?_
  rintro e x1 ⟨rfl, hb⟩
  have HX1 : Hid (∀ wx, Below x1.heap.size x1 wx → wx.heap[q]? = some (.cells #[.int .i64 F.1, .slice lo1 F.2.length lc1] 35) ∧ Below W0.heap.size W0 wx) := fun wx hx => (HG1.out wx (btrH' hb hx)).1
  clear hb q0 q1 HG1 HF1 HA1
  obtain ⟨c0, c1, c2, c3, c4⟩ := (HQ.out x1 (HX1.out x1 (Below.refl _ _)).2).1
  go_wp2_with fail
  refine (HTW.out x1 (HX1.out x1 (Below.refl _ _)).2).mono ?_
  rintro e a2 ⟨u2, rfl, hh, hb⟩
  have HA2 : Hid (∀ wx, Below a2.heap.size a2 wx → wx.heap[q]? = some (.cells #[.int .i64 F.1, .slice lo1 F.2.length lc1] 35) ∧ Below W0.heap.size W0 wx) := fun wx hx => HX1.out wx (btrH' hb hx)
  clear hb c0 c1 c2 c3 c4
  go_wp2_with fail
  refine (HGP.out u2 a2 hh).mono ?_
  rintro e b2 ⟨N, L, ao, ac, g2, hA, rfl, har, ht, hb⟩
  obtain ⟨p1, hp1⟩ : ∃ p, b2.heap.size = p := ⟨_, rfl⟩
  obtain ⟨Y2, hY2⟩ : ∃ Y2, b2.alloc (.cells #[.int .i64 N, .slice ao L.length ac] 43) = Y2 := ⟨_, rfl⟩
  have HY2 : Hid (b2.alloc (.cells #[.int .i64 N, .slice ao L.length ac] 43) = Y2) := hY2
  have HF2 : Hid (∀ wx, Below Y2.heap.size Y2 wx → (wx.heap[q]? = some (.cells #[.int .i64 F.1, .slice lo1 F.2.length lc1] 35) ∧ Below W0.heap.size W0 wx) ∧ wx.heap[p1]? = some (.cells #[.int .i64 N, .slice ao L.length ac] 43) ∧ HasArcs wx (.slice ao L.length ac) L ∧ IsTold wx E g2) := fun wx hx => by
    have e1 : Y2.heap[p1]? = some (.cells #[.int .i64 N, .slice ao L.length ac] 43) := by rw [← hY2, ← hp1]; exact heap_newW _ _
    have e2 : Below b2.heap.size b2 Y2 := by rw [← hY2]; exact (Below.refl _ _).alloc (Nat.le_refl _) _
    have e3 := btrH' e2 hx
    exact ⟨HA2.out wx (btrH' hb e3), (hx.block _ (some_lt e1)).trans e1, har.keep e3, ht.keep (Below.keeps e3)⟩
  have HN2 : Hid (GAns h N L) := hA
  clear hh hb hA har ht hY2
  go_upto_region 12 with fail
  rw [HY2.out]
  clear HY2 hp1
  obtain ⟨c0, c1, c2, c3, c4⟩ := (HQ.out Y2 (HF2.out Y2 (Below.refl _ _)).1.2).1
  go_wp2_with fail
  refine (HDG.out HGB.out Y2 (HF2.out Y2 (Below.refl _ _)).1.2).mono ?_
  rintro e d2 ⟨N', L', bo, bc, lo2, lc2, hA', rfl, har, hp, hb⟩
  obtain ⟨hx1, hx2⟩ := hA'.one HN2.out
  subst N'
  subst L'
  obtain ⟨⟨rq, r1⟩, r2, r3, r4⟩ := HF2.out d2 hb
  obtain ⟨p2, hp2⟩ : ∃ p, d2.heap.size = p := ⟨_, rfl⟩
  obtain ⟨V2, hV2⟩ : ∃ V2, ((d2.setCell ⟨q, 0, none⟩ (.int .i64 E.1)).setCell ⟨q, 1, none⟩ (.slice lo2 E.2.length lc2)).alloc (.cells #[.int .i64 N, .slice bo L.length bc] 43) = V2 := ⟨_, rfl⟩
  have HV2 : Hid (((d2.setCell ⟨q, 0, none⟩ (.int .i64 E.1)).setCell ⟨q, 1, none⟩ (.slice lo2 E.2.length lc2)).alloc (.cells #[.int .i64 N, .slice bo L.length bc] 43) = V2) := hV2
  have hqd : q < d2.heap.size := some_lt rq
  have hpq : p1 ≠ q := fun e => by rw [e, rq] at r2; simp at r2
  have HG2 : Hid (∀ wx, Below V2.heap.size V2 wx → (wx.heap[q]? = some (.cells #[.int .i64 E.1, .slice lo2 E.2.length lc2] 35) ∧ Below W0.heap.size W0 wx) ∧ (wx.heap[p1]? = some (.cells #[.int .i64 N, .slice ao L.length ac] 43) ∧ wx.heap[p2]? = some (.cells #[.int .i64 N, .slice bo L.length bc] 43)) ∧ (HasArcs wx (.slice ao L.length ac) L ∧ HasArcs wx (.slice bo L.length bc) L) ∧ IsTold wx E g2 ∧ HasPlaces wx (.slice lo2 E.2.length lc2) E.2) := fun wx hx => by
    obtain ⟨X, hX⟩ : ∃ X, (d2.setCell ⟨q, 0, none⟩ (.int .i64 E.1)).setCell ⟨q, 1, none⟩ (.slice lo2 E.2.length lc2) = X := ⟨_, rfl⟩
    have sX : X.heap.size = d2.heap.size := by rw [← hX]; simp [World.setCell]
    have e0 : X.heap[q]? = some (.cells #[.int .i64 E.1, .slice lo2 E.2.length lc2] 35) := by rw [← hX]; exact set_err rq _ _
    have ep : X.heap[p1]? = some (.cells #[.int .i64 N, .slice ao L.length ac] 43) := by rw [← hX]; exact (Below.heap_setCell _ _ _ _ (by exact hpq)).trans ((Below.heap_setCell _ _ _ _ (by exact hpq)).trans r2)
    have e1 : Below W0.heap.size W0 X := by rw [← hX]; exact (r1.setCell (p := ⟨q, 0, none⟩) HQ1.out _).setCell (p := ⟨q, 1, none⟩) HQ1.out _
    have e2 : HasArcs X (.slice ao L.length ac) L := by rw [← hX]; exact arcs_set2 r3 rq _ _
    have e3 : HasArcs X (.slice bo L.length bc) L := by rw [← hX]; exact arcs_set2 har rq _ _
    have e4 : IsTold X E g2 := by rw [← hX]; exact r4.keep (keeps_setE rq _ _)
    have e5 : HasPlaces X (.slice lo2 E.2.length lc2) E.2 := by rw [← hX]; exact pl_sets (F := E) rq hp _ _
    rw [hX] at hV2
    have e6 : Below X.heap.size X V2 := by rw [← hV2]; exact (Below.refl _ _).alloc (Nat.le_refl _) _
    have e7 : V2.heap[p2]? = some (.cells #[.int .i64 N, .slice bo L.length bc] 43) := by rw [← hV2, ← hp2, ← sX]; exact heap_newW _ _
    have e8 := btrH' e6 hx
    exact ⟨⟨(e8.block _ (some_lt e0)).trans e0, btrH' e1 e8⟩, ⟨(e8.block _ (some_lt ep)).trans ep, (hx.block _ (some_lt e7)).trans e7⟩, ⟨e2.keep e8, e3.keep e8⟩, e4.keep (Below.keeps e8), e5.keep e8⟩
  obtain ⟨q0, q1, f0, f1⟩ := cell_two rq
  clear har hp hb hV2 c0 c1 c2 c3 c4 hA' rq r1 r2 r3 r4 hpq
  have HP2 : Hid (d2.heap.size = p2) := hp2
  clear hp2
  go_upto_region 13 with fail
  rw [HV2.out]
  try rw [HP2.out]
  clear HV2 q0 q1 f0 f1 hqd HP2
  obtain ⟨t0, t1, _, _⟩ := cell_two (HG2.out V2 (Below.refl _ _)).2.1.1
  obtain ⟨s0, s1, _, _⟩ := cell_two (HG2.out V2 (Below.refl _ _)).2.1.2
  go_wp2_with fail
  refine (gsame_yes N ao bo ac bc L V2 (HG2.out _ (Below.refl _ _)).2.2.1.1 (HG2.out _ (Below.refl _ _)).2.2.1.2 HN2.out.few).mono ?_
  rintro e l2 ⟨rfl, hb⟩
  have HL2 : Hid (Below V2.heap.size V2 l2) := hb
  clear hb t0 t1 s0 s1
  obtain ⟨q0, q1, _, _⟩ := cell_two (HG2.out l2 HL2.out).1.1
  go_wp2_with fail
  refine (seen_told E g2 lo2 lc2 l2 (HG2.out _ HL2.out).2.2.2.1 (HG2.out _ HL2.out).2.2.2.2 HEL.out (HTY.out _ (HQ.out _ (HG2.out _ HL2.out).1.2).2.2.1)).mono ?_
  rintro e x2 ⟨rfl, hb⟩
  have HX2 : Hid (∀ wx, Below x2.heap.size x2 wx → wx.heap[q]? = some (.cells #[.int .i64 E.1, .slice lo2 E.2.length lc2] 35) ∧ Below W0.heap.size W0 wx) := fun wx hx => (HG2.out wx (btrH' HL2.out (btrH' hb hx))).1
  clear hb q0 q1 HG2 HF2 HA2 HX1 HL2
  obtain ⟨c0, c1, c2, c3, c4⟩ := (HQ.out x2 (HX2.out x2 (Below.refl _ _)).2).1
  go_wp2_with fail
  refine (HTW.out x2 (HX2.out x2 (Below.refl _ _)).2).mono ?_
  rintro e a3 ⟨u3, rfl, hh, hb⟩
  have HA3 : Hid (∀ wx, Below a3.heap.size a3 wx → wx.heap[q]? = some (.cells #[.int .i64 E.1, .slice lo2 E.2.length lc2] 35) ∧ Below W0.heap.size W0 wx) := fun wx hx => HX2.out wx (btrH' hb hx)
  clear hb c0 c1 c2 c3 c4
  go_wp2_with fail
  refine (HRP.out u3 a3 hh).mono ?_
  rintro e b3 ⟨io, ik, ic, R, g3, hA, rfl, hin, hnw, ht, hb⟩
  have HQI : Hid (∀ a, io = some a → a.block ≠ q) := fun a ea => by have := hnw a ea; have := some_lt (HA3.out a3 (Below.refl _ _)).1; show a.block ≠ q; omega
  have HF3 : Hid (∀ wx, Below b3.heap.size b3 wx → (wx.heap[q]? = some (.cells #[.int .i64 E.1, .slice lo2 E.2.length lc2] 35) ∧ Below W0.heap.size W0 wx) ∧ HasInts wx (.slice io ik ic) R ∧ IsTold wx E g3) := fun wx hx => ⟨HA3.out wx (btrH' hb hx), hin.keep hx, ht.keep (Below.keeps hx)⟩
  have HN3 : Hid (KAns h R) := hA
  clear hh hb hA hin ht hnw
  obtain ⟨c0, c1, c2, c3, c4⟩ := (HQ.out b3 (HF3.out b3 (Below.refl _ _)).1.2).1
  go_wp2_with fail
  refine (HDR.out b3 (HF3.out b3 (Below.refl _ _)).1.2).mono ?_
  rintro e d3 ⟨jo, jk, jc, R', lo3, lc3, hA', rfl, hin, hp, hnw, hb⟩
  have HQJ : Hid (∀ a, jo = some a → a.block ≠ q) := fun a ea => by have := hnw a ea; have := some_lt (HF3.out b3 (Below.refl _ _)).1.1; show a.block ≠ q; omega
  have hx1 := hA'.one HN3.out
  subst R'
  obtain ⟨⟨rq, r1⟩, r2, r3⟩ := HF3.out d3 hb
  obtain ⟨V3, hV3⟩ : ∃ V3, (d3.setCell ⟨q, 0, none⟩ (.int .i64 E.1)).setCell ⟨q, 1, none⟩ (.slice lo3 E.2.length lc3) = V3 := ⟨_, rfl⟩
  have HV3 : Hid ((d3.setCell ⟨q, 0, none⟩ (.int .i64 E.1)).setCell ⟨q, 1, none⟩ (.slice lo3 E.2.length lc3) = V3) := hV3
  have HG3 : Hid (∀ wx, Below V3.heap.size V3 wx → (wx.heap[q]? = some (.cells #[.int .i64 E.1, .slice lo3 E.2.length lc3] 35) ∧ Below W0.heap.size W0 wx) ∧ (HasInts wx (.slice io ik ic) R ∧ HasInts wx (.slice jo jk jc) R) ∧ IsTold wx E g3 ∧ HasPlaces wx (.slice lo3 E.2.length lc3) E.2) := fun wx hx => by
    have e0 : V3.heap[q]? = some (.cells #[.int .i64 E.1, .slice lo3 E.2.length lc3] 35) := by rw [← hV3]; exact set_err rq _ _
    have e1 : Below W0.heap.size W0 V3 := by rw [← hV3]; exact (r1.setCell (p := ⟨q, 0, none⟩) HQ1.out _).setCell (p := ⟨q, 1, none⟩) HQ1.out _
    have e2 : HasInts V3 (.slice io ik ic) R := by rw [← hV3]; exact ints_err HQI.out r2 _ _
    have e3 : HasInts V3 (.slice jo jk jc) R := by rw [← hV3]; exact ints_err HQJ.out hin _ _
    have e4 : IsTold V3 E g3 := by rw [← hV3]; exact r3.keep (keeps_setE rq _ _)
    have e5 : HasPlaces V3 (.slice lo3 E.2.length lc3) E.2 := by rw [← hV3]; exact pl_sets (F := E) rq hp _ _
    exact ⟨⟨(hx.block _ (some_lt e0)).trans e0, btrH' e1 hx⟩, ⟨e2.keep hx, e3.keep hx⟩, e4.keep (Below.keeps hx), e5.keep hx⟩
  obtain ⟨q0, q1, f0, f1⟩ := cell_two rq
  clear hin hp hb hnw hV3 c0 c1 c2 c3 c4 hA' rq r1 r2 r3
  go_upto_region 17 with fail
  rw [HV3.out]
  clear HV3 q0 q1 f0 f1
  go_wp2_with fail
  refine (sameInts_yes (.slice io ik ic) (.slice jo jk jc) R V3 (HG3.out _ (Below.refl _ _)).2.1.1 (HG3.out _ (Below.refl _ _)).2.1.2 HN3.out.few).mono ?_
  rintro e l3 ⟨rfl, hb⟩
  have HL3 : Hid (Below V3.heap.size V3 l3) := hb
  clear hb
  obtain ⟨q0, q1, _, _⟩ := cell_two (HG3.out l3 HL3.out).1.1
  go_wp2_with fail
  refine (seen_told E g3 lo3 lc3 l3 (HG3.out _ HL3.out).2.2.1 (HG3.out _ HL3.out).2.2.2 HEL.out (HTY.out _ (HQ.out _ (HG3.out _ HL3.out).1.2).2.2.1)).mono ?_
  rintro e x3 ⟨rfl, hb⟩
  have HX3 : Hid (∀ wx, Below x3.heap.size x3 wx → wx.heap[q]? = some (.cells #[.int .i64 E.1, .slice lo3 E.2.length lc3] 35) ∧ Below W0.heap.size W0 wx) := fun wx hx => (HG3.out wx (btrH' HL3.out (btrH' hb hx))).1
  clear hb q0 q1 HG3 HF3 HA3 HX2 HL3
  obtain ⟨c0, c1, c2, c3, c4⟩ := (HQ.out x3 (HX3.out x3 (Below.refl _ _)).2).1
  go_wp2_with fail
  refine (HTW.out x3 (HX3.out x3 (Below.refl _ _)).2).mono ?_
  rintro e a4 ⟨u4, rfl, hh, hb⟩
  have HA4 : Hid (∀ wx, Below a4.heap.size a4 wx → wx.heap[q]? = some (.cells #[.int .i64 E.1, .slice lo3 E.2.length lc3] 35) ∧ Below W0.heap.size W0 wx) := fun wx hx => HX3.out wx (btrH' hb hx)
  clear hb c0 c1 c2 c3 c4
  go_wp2_with fail
  refine (HTP.out u4 a4 hh).mono ?_
  rintro e b4 ⟨tv, H, g4, hA, rfl, hH4, ht, hb⟩
  obtain ⟨t5, t6, t7, t8, t9, k5, k6, k7, k8, k9⟩ := tv
  have eT : hvl ⟨t5, t6, t7, t8, t9, k5, k6, k7, k8, k9⟩ H = .agg #[.slice t5 H.node.length k5, .slice t6 H.upF.length k6, .slice t7 H.up.length k7, .slice t8 H.dnF.length k8, .slice t9 H.dn.length k9] := rfl
  rw [eT]
  have HET : Hid (type_of% eT) := eT
  obtain ⟨p3, hp3⟩ : ∃ p, b4.heap.size = p := ⟨_, rfl⟩
  obtain ⟨Y4, hY4⟩ : ∃ Y4, b4.alloc (.cells #[.slice t5 H.node.length k5, .slice t6 H.upF.length k6, .slice t7 H.up.length k7, .slice t8 H.dnF.length k8, .slice t9 H.dn.length k9] 25) = Y4 := ⟨_, rfl⟩
  have HY4 : Hid (b4.alloc (.cells #[.slice t5 H.node.length k5, .slice t6 H.upF.length k6, .slice t7 H.up.length k7, .slice t8 H.dnF.length k8, .slice t9 H.dn.length k9] 25) = Y4) := hY4
  have HF4 : Hid (∀ wx, Below Y4.heap.size Y4 wx → (wx.heap[q]? = some (.cells #[.int .i64 E.1, .slice lo3 E.2.length lc3] 35) ∧ Below W0.heap.size W0 wx) ∧ wx.heap[p3]? = some (.cells #[.slice t5 H.node.length k5, .slice t6 H.upF.length k6, .slice t7 H.up.length k7, .slice t8 H.dnF.length k8, .slice t9 H.dn.length k9] 25) ∧ HasH wx ⟨t5, t6, t7, t8, t9, k5, k6, k7, k8, k9⟩ H ∧ IsTold wx E g4) := fun wx hx => by
    have e1 : Y4.heap[p3]? = some (.cells #[.slice t5 H.node.length k5, .slice t6 H.upF.length k6, .slice t7 H.up.length k7, .slice t8 H.dnF.length k8, .slice t9 H.dn.length k9] 25) := by rw [← hY4, ← hp3]; exact heap_newW _ _
    have e2 : Below b4.heap.size b4 Y4 := by rw [← hY4]; exact (Below.refl _ _).alloc (Nat.le_refl _) _
    have e3 := btrH' e2 hx
    exact ⟨HA4.out wx (btrH' hb e3), (hx.block _ (some_lt e1)).trans e1, hH4.keep e3, ht.keep (Below.keeps e3)⟩
  have HN4 : Hid (TAns h H) := hA
  clear hh hb hA hH4 ht hY4 eT
  go_upto_region 20 with fail
  rw [HY4.out]
  clear HY4 hp3
  obtain ⟨c0, c1, c2, c3, c4⟩ := (HQ.out Y4 (HF4.out Y4 (Below.refl _ _)).1.2).1
  go_wp2_with fail
  refine (HDT.out Y4 (HF4.out Y4 (Below.refl _ _)).1.2).mono ?_
  rintro e d4 ⟨sv, H', lo4, lc4, hA', rfl, hH5, hp, hb⟩
  have hx1 := hA'.one HN4.out
  subst H'
  obtain ⟨s5, s6, s7, s8, s9, m5, m6, m7, m8, m9⟩ := sv
  have eS : hvl ⟨s5, s6, s7, s8, s9, m5, m6, m7, m8, m9⟩ H = .agg #[.slice s5 H.node.length m5, .slice s6 H.upF.length m6, .slice s7 H.up.length m7, .slice s8 H.dnF.length m8, .slice s9 H.dn.length m9] := rfl
  rw [eS]
  have HES : Hid (type_of% eS) := eS
  obtain ⟨⟨rq, r1⟩, r2, r3, r4⟩ := HF4.out d4 hb
  obtain ⟨p4, hp4⟩ : ∃ p, d4.heap.size = p := ⟨_, rfl⟩
  obtain ⟨V4, hV4⟩ : ∃ V4, ((d4.setCell ⟨q, 0, none⟩ (.int .i64 E.1)).setCell ⟨q, 1, none⟩ (.slice lo4 E.2.length lc4)).alloc (.cells #[.slice s5 H.node.length m5, .slice s6 H.upF.length m6, .slice s7 H.up.length m7, .slice s8 H.dnF.length m8, .slice s9 H.dn.length m9] 25) = V4 := ⟨_, rfl⟩
  have HV4 : Hid (((d4.setCell ⟨q, 0, none⟩ (.int .i64 E.1)).setCell ⟨q, 1, none⟩ (.slice lo4 E.2.length lc4)).alloc (.cells #[.slice s5 H.node.length m5, .slice s6 H.upF.length m6, .slice s7 H.up.length m7, .slice s8 H.dnF.length m8, .slice s9 H.dn.length m9] 25) = V4) := hV4
  have hqd : q < d4.heap.size := some_lt rq
  have hpq : p3 ≠ q := fun e => by rw [e, rq] at r2; simp at r2
  have HG4 : Hid (∀ wx, Below V4.heap.size V4 wx → (wx.heap[q]? = some (.cells #[.int .i64 E.1, .slice lo4 E.2.length lc4] 35) ∧ Below W0.heap.size W0 wx) ∧ (wx.heap[p3]? = some (.cells #[.slice t5 H.node.length k5, .slice t6 H.upF.length k6, .slice t7 H.up.length k7, .slice t8 H.dnF.length k8, .slice t9 H.dn.length k9] 25) ∧ wx.heap[p4]? = some (.cells #[.slice s5 H.node.length m5, .slice s6 H.upF.length m6, .slice s7 H.up.length m7, .slice s8 H.dnF.length m8, .slice s9 H.dn.length m9] 25)) ∧ (HasH wx ⟨t5, t6, t7, t8, t9, k5, k6, k7, k8, k9⟩ H ∧ HasH wx ⟨s5, s6, s7, s8, s9, m5, m6, m7, m8, m9⟩ H) ∧ IsTold wx E g4 ∧ HasPlaces wx (.slice lo4 E.2.length lc4) E.2) := fun wx hx => by
    obtain ⟨X, hX⟩ : ∃ X, (d4.setCell ⟨q, 0, none⟩ (.int .i64 E.1)).setCell ⟨q, 1, none⟩ (.slice lo4 E.2.length lc4) = X := ⟨_, rfl⟩
    have sX : X.heap.size = d4.heap.size := by rw [← hX]; simp [World.setCell]
    have e0 : X.heap[q]? = some (.cells #[.int .i64 E.1, .slice lo4 E.2.length lc4] 35) := by rw [← hX]; exact set_err rq _ _
    have ep : X.heap[p3]? = some (.cells #[.slice t5 H.node.length k5, .slice t6 H.upF.length k6, .slice t7 H.up.length k7, .slice t8 H.dnF.length k8, .slice t9 H.dn.length k9] 25) := by rw [← hX]; exact (Below.heap_setCell _ _ _ _ (by exact hpq)).trans ((Below.heap_setCell _ _ _ _ (by exact hpq)).trans r2)
    have e1 : Below W0.heap.size W0 X := by rw [← hX]; exact (r1.setCell (p := ⟨q, 0, none⟩) HQ1.out _).setCell (p := ⟨q, 1, none⟩) HQ1.out _
    have e2 : HasH X ⟨t5, t6, t7, t8, t9, k5, k6, k7, k8, k9⟩ H := by rw [← hX]; exact has_err rq r3 _ _
    have e3 : HasH X ⟨s5, s6, s7, s8, s9, m5, m6, m7, m8, m9⟩ H := by rw [← hX]; exact has_err rq hH5 _ _
    have e4 : IsTold X E g4 := by rw [← hX]; exact r4.keep (keeps_setE rq _ _)
    have e5 : HasPlaces X (.slice lo4 E.2.length lc4) E.2 := by rw [← hX]; exact pl_sets (F := E) rq hp _ _
    rw [hX] at hV4
    have e6 : Below X.heap.size X V4 := by rw [← hV4]; exact (Below.refl _ _).alloc (Nat.le_refl _) _
    have e7 : V4.heap[p4]? = some (.cells #[.slice s5 H.node.length m5, .slice s6 H.upF.length m6, .slice s7 H.up.length m7, .slice s8 H.dnF.length m8, .slice s9 H.dn.length m9] 25) := by rw [← hV4, ← hp4, ← sX]; exact heap_newW _ _
    have e8 := btrH' e6 hx
    exact ⟨⟨(e8.block _ (some_lt e0)).trans e0, btrH' e1 e8⟩, ⟨(e8.block _ (some_lt ep)).trans ep, (hx.block _ (some_lt e7)).trans e7⟩, ⟨e2.keep e8, e3.keep e8⟩, e4.keep (Below.keeps e8), e5.keep e8⟩
  obtain ⟨q0, q1, f0, f1⟩ := cell_two rq
  clear hH5 hp hb hV4 c0 c1 c2 c3 c4 hA' rq r1 r2 r3 r4 hpq eS
  have HP4 : Hid (d4.heap.size = p4) := hp4
  clear hp4
  go_upto_region 21 with fail
  rw [HV4.out]
  try rw [HP4.out]
  clear HV4 q0 q1 f0 f1 hqd HP4
  obtain ⟨t0, t1, t2, t3, t4⟩ := five_cells (HG4.out V4 (Below.refl _ _)).2.1.1
  obtain ⟨s0, s1, s2, s3, s4⟩ := five_cells (HG4.out V4 (Below.refl _ _)).2.1.2
  have HTS : Hid (Calls Tryz.prog 20 #[.agg #[.slice t5 H.node.length k5, .slice t6 H.upF.length k6, .slice t7 H.up.length k7, .slice t8 H.dnF.length k8, .slice t9 H.dn.length k9], .agg #[.slice s5 H.node.length m5, .slice s6 H.upF.length m6, .slice s7 H.up.length m7, .slice s8 H.dnF.length m8, .slice s9 H.dn.length m9]] V4 fun e w' => e = .returned (.bool true) ∧ Below V4.heap.size V4 w') := by
    have g := tSame_calls ⟨t5, t6, t7, t8, t9, k5, k6, k7, k8, k9⟩ ⟨s5, s6, s7, s8, s9, m5, m6, m7, m8, m9⟩ H H V4 (HG4.out _ (Below.refl _ _)).2.2.1.1 (HG4.out _ (Below.refl _ _)).2.2.1.2 (HN4.out.short HSH.out)
    rw [decide_eq_true (rfl : H = H)] at g
    exact g
  go_wp2_with fail
  refine HTS.out.mono ?_
  rintro e l4 ⟨rfl, hb⟩
  have HL4 : Hid (Below V4.heap.size V4 l4) := hb
  clear hb t0 t1 t2 t3 t4 s0 s1 s2 s3 s4
  obtain ⟨q0, q1, _, _⟩ := cell_two (HG4.out l4 HL4.out).1.1
  go_wp2_with fail
  refine (seen_told E g4 lo4 lc4 l4 (HG4.out _ HL4.out).2.2.2.1 (HG4.out _ HL4.out).2.2.2.2 HEL.out (HTY.out _ (HQ.out _ (HG4.out _ HL4.out).1.2).2.2.1)).mono ?_
  rintro e x4 ⟨rfl, hb⟩
  have HX4 : Hid (Below W0.heap.size W0 x4) := (HG4.out x4 (btrH' HL4.out hb)).1.2
  clear hb q0 q1
  go_wp2
  go_ret
  exact ⟨rfl, (HQ.out x4 HX4.out).2.2.1⟩
theorem checks_calls (v : HV) (h : Hr) (i : Int) (w : World) (hty : HasType w) (hH : HasH w v h) (hr : Reach h) :
    Calls Tryz.prog 3 #[hvl v h, .int .i64 i] w fun e w' => e = .returned (.bool true) ∧ Below w.heap.size w w' :=
  checks_aux v.no v.uo v.ul v.wo v.dl v.nc v.uc v.ulc v.wc v.dlc h i w hty hH hr
end Go.Proofs.YtkehpmbnbknpfaaGreatDoor.Hi
