/- viaductref04.DocMerge: the document's answer: the arcs of both, or the error. -/
import Derived.Test.YtbfopkhdngfanaaBoth
import Derived.Test.YtbfopkhdngfanaaTwin
import Derived.Test.YtbfopkhdngfanaaRFirst
import Derived.Deep.RegionHeld3
import Derived.Deep.DeepCutAuto
import Derived.Deep.AppendLies
namespace Go.Proofs.Ytbfopkhdngfanaa
open Go.RowKit Go.Extern Go.Sort Go.Shelf

attribute [local go_sem] Oper.semAt_some

theorem bcell {W w1 : World} (hb : Below W.heap.size W w1) : (∀ b o, b < W.heap.size → w1.cell? ⟨b, o, none⟩ = W.cell? ⟨b, o, none⟩) ∧ (∀ b o, b < W.heap.size → w1.frozen? ⟨b, o, none⟩ = W.frozen? ⟨b, o, none⟩) :=
  ⟨fun b o h => hb.cell (p := ⟨b, o, none⟩) h, fun b o h => hb.frozen (p := ⟨b, o, none⟩) h⟩

theorem rowA_keep1 {w w' : World} {base n : Nat} {xs : List Value} {v : Value} (h : w.ownsRow base 42 3 v n xs) (hk : ∀ g, v.ownBlock = some g → w'.heap[g]? = w.heap[g]?) : w'.ownsRow base 42 3 v n xs := by
  obtain ⟨h1, h2⟩ := h
  refine ⟨h1, ?_⟩
  rcases h2 with h2 | ⟨g, cap, cur, e, hb, hh, r⟩
  · exact Or.inl h2
  · exact Or.inr ⟨g, cap, cur, e, hb, (hk g (by rw [e]; rfl)).trans hh, r⟩
/-- what holds at each round of the loop that appends. -/
structure MI (W0 : World) (M : Int) (cb : Nat) (l : List (Int × Int × Int)) (sv : Value) (wr : World) : Prop where
  row : wr.ownsRow W0.heap.size 42 3 sv l.length (flatA l)
  ne : sv.ownBlock ≠ some cb
  c : wr.heap[cb]? = some (.cells #[.int .i64 M, sv] 24)
  old : W0.heap.size ≤ cb
  below : Below W0.heap.size W0 wr
theorem MI.keep {W0 : World} {M : Int} {cb : Nat} {l : List (Int × Int × Int)} {sv : Value} {wr wn : World} (h : MI W0 M cb l sv wr) (hb : Below wr.heap.size wr wn) : MI W0 M cb l sv wn :=
  ⟨rowA_keep h.row (fun g _ hg => hb.block g hg), h.ne, (hb.block _ (lt_of_get h.c)).trans h.c, h.old, h.below.trans (hb.mono h.below.size)⟩
theorem MI.own {W0 : World} {M : Int} {cb : Nat} {l : List (Int × Int × Int)} {sv : Value} {wr : World} (h : MI W0 M cb l sv wr) : ∀ k, sv.ownBlock = some k → W0.heap.size ≤ k := fun k hk => (h.row.lt k hk).1
/-- what the region's end says: the first error lies in a variable of its own. -/
def FirstLaid (W0 : World) (E : Int × List (Int × Int)) (c : Value) (wx : World) : Prop := ∃ g C ps po pc, c = .pointer (some ⟨g, 0, none⟩) ∧ (C, ps) = E ∧ wx.heap[g]? = some (.cells #[.int .i64 C, .slice po ps.length pc] 45) ∧ HasPlaces wx (.slice po ps.length pc) ps ∧ Below W0.heap.size W0 wx
theorem laid_new {W0 w3 : World} {E : Int × List (Int × Int)} {C : Int} {ps : List (Int × Int)} {po : Option Addr} {pc : Nat} (hE : (C, ps) = E) (hP : HasPlaces w3 (.slice po ps.length pc) ps) (hB : Below W0.heap.size W0 w3) : FirstLaid W0 E (.pointer (some ⟨w3.heap.size, 0, none⟩)) (w3.alloc (.cells #[.int .i64 C, .slice po ps.length pc] 45)) :=
  ⟨_, C, ps, po, pc, rfl, hE, heap_new _ _, hP.keep ((Below.refl _ _).alloc (Nat.le_refl _) _), hB.alloc hB.size _⟩
theorem laid_old {W0 w3 : World} {E : Int × List (Int × Int)} {C : Int} {ps : List (Int × Int)} {po : Option Addr} {pc g : Nat} (hE : (C, ps) = E) (hP : HasPlaces w3 (.slice po ps.length pc) ps) (hB : Below W0.heap.size W0 w3) (hg : W0.heap.size ≤ g) (h : w3.heap[g]? = some (.cells #[.int .i64 0, .slice none 0 0] 45)) : FirstLaid W0 E (.pointer (some ⟨g, 0, none⟩)) ((w3.setCell ⟨g, 0, none⟩ (.int .i64 C)).setCell ⟨g, 1, none⟩ (.slice po ps.length pc)) := by
  refine ⟨g, C, ps, po, pc, rfl, hE, ?_, hP.lay2 h _ _, (hB.setCell (p := ⟨g, 0, none⟩) hg _).setCell (p := ⟨g, 1, none⟩) hg _⟩
  simp only [World.setCell, Array.getElem?_modify]
  rw [if_pos trivial, if_pos trivial, h]
  rfl

theorem lay_four {B b1 b2 : Nat} {w w2 : World} (h : Below B w w2) (h1 : B ≤ b1) (h2 : B ≤ b2) (c0 c1 c2 c3 : Value) : Below B w ((((w2.setCell ⟨b1, 0, none⟩ c0).setCell ⟨b1, 1, none⟩ c1).setCell ⟨b2, 0, none⟩ c2).setCell ⟨b2, 1, none⟩ c3) :=
  (((h.setCell (p := ⟨b1, 0, none⟩) h1 _).setCell (p := ⟨b1, 1, none⟩) h1 _).setCell (p := ⟨b2, 0, none⟩) h2 _).setCell (p := ⟨b2, 1, none⟩) h2 _
theorem no_arcs (w : World) : HasArcs w (.slice none 0 0) [] := ⟨none, 0, rfl, fun j a hj => by simp at hj⟩
theorem no_places (w : World) : HasPlaces w (.slice none 0 0) [] := ⟨none, 0, rfl, fun j a hj => by simp at hj⟩

set_option maxRecDepth 100000 in
set_option maxHeartbeats 8000000 in
theorem docMerge_calls (M N : Int) (ao bo : Option Addr) (ac bc : Nat) (xs ys : List (Int × Int × Int)) (w : World) (hx : HasArcs w (.slice ao xs.length ac) xs) (hy : HasArcs w (.slice bo ys.length bc) ys) (hmx : xs.length ≤ maxLen) (hmy : ys.length ≤ maxLen) :
    Calls Try.prog 15 #[.agg #[.int .i64 M, .slice ao xs.length ac], .agg #[.int .i64 N, .slice bo ys.length bc]] w fun e w' => ∃ K lo n lc zs po pc, e = .returned (.tuple #[.agg #[.int .i64 K, .slice lo n lc], .agg #[.int .i64 (bothErr M N xs ys).1, .slice po (bothErr M N xs ys).2.length pc]]) ∧ HasArcs w' (.slice lo n lc) zs ∧ NewA w.heap.size (.slice lo n lc) ∧ HasPlaces w' (.slice po (bothErr M N xs ys).2.length pc) (bothErr M N xs ys).2 ∧ ((bothErr M N xs ys = (0, []) ∧ K = M ∧ zs = xs ++ ys) ∨ (bothErr M N xs ys ≠ (0, []) ∧ K = 0 ∧ zs = [])) ∧ Below w.heap.size w w' := by
  obtain ⟨W0, hW0⟩ : ∃ W0, (((w.alloc (.cells #[.int .i64 M, .slice ao xs.length ac] 24)).alloc (.cells #[.int .i64 N, .slice bo ys.length bc] 24)).alloc (.cells #[.int .i64 0, .slice none 0 0] 24)).alloc (.cells #[.int .i64 0, .slice none 0 0] 45) = W0 := ⟨_, rfl⟩
  have hs0 : W0.heap.size = w.heap.size + 4 := by rw [← hW0]; simp
  have hB0 : Below w.heap.size w W0 := by rw [← hW0]; exact ((((Below.refl _ w).alloc (Nat.le_refl _) _).alloc (by simp) _).alloc (by simp; omega) _).alloc (by simp; omega) _
  have k0 : W0.heap[w.heap.size]? = some (.cells #[.int .i64 M, .slice ao xs.length ac] 24) := by rw [← hW0, Below.heap_alloc _ _ _ (by simp; omega), Below.heap_alloc _ _ _ (by simp; omega), Below.heap_alloc _ _ _ (by simp)]; exact heap_new _ _
  have k1 : W0.heap[w.heap.size + 1]? = some (.cells #[.int .i64 N, .slice bo ys.length bc] 24) := by
    rw [← hW0, Below.heap_alloc _ _ _ (by simp), Below.heap_alloc _ _ _ (by simp)]
    have h := heap_new (w.alloc (.cells #[.int .i64 M, .slice ao xs.length ac] 24)) (.cells #[.int .i64 N, .slice bo ys.length bc] 24)
    simpa using h
  have k2 : W0.heap[w.heap.size + 1 + 1]? = some (.cells #[.int .i64 0, .slice none 0 0] 24) := by
    rw [← hW0, Below.heap_alloc _ _ _ (by simp)]
    have h := heap_new ((w.alloc (.cells #[.int .i64 M, .slice ao xs.length ac] 24)).alloc (.cells #[.int .i64 N, .slice bo ys.length bc] 24)) (.cells #[.int .i64 0, .slice none 0 0] 24)
    simpa using h
  have k3 : W0.heap[w.heap.size + 1 + 1 + 1]? = some (.cells #[.int .i64 0, .slice none 0 0] 45) := by
    have h := heap_new (((w.alloc (.cells #[.int .i64 M, .slice ao xs.length ac] 24)).alloc (.cells #[.int .i64 N, .slice bo ys.length bc] 24)).alloc (.cells #[.int .i64 0, .slice none 0 0] 24)) (.cells #[.int .i64 0, .slice none 0 0] 45)
    rw [hW0] at h
    simpa using h
  have HW0 : Hid ((((w.alloc (.cells #[.int .i64 M, .slice ao xs.length ac] 24)).alloc (.cells #[.int .i64 N, .slice bo ys.length bc] 24)).alloc (.cells #[.int .i64 0, .slice none 0 0] 24)).alloc (.cells #[.int .i64 0, .slice none 0 0] 45) = W0) := hW0
  have HK : Hid (∀ wx, Below W0.heap.size W0 wx → (wx.cell? ⟨w.heap.size, 0, none⟩ = some (.int .i64 M) ∧ wx.cell? ⟨w.heap.size, 1, none⟩ = some (.slice ao xs.length ac) ∧ wx.cell? ⟨w.heap.size + 1, 0, none⟩ = some (.int .i64 N) ∧ wx.cell? ⟨w.heap.size + 1, 1, none⟩ = some (.slice bo ys.length bc)) ∧ wx.heap[w.heap.size + 1 + 1]? = some (.cells #[.int .i64 0, .slice none 0 0] 24) ∧ wx.heap[w.heap.size + 1 + 1 + 1]? = some (.cells #[.int .i64 0, .slice none 0 0] 45) ∧ w.heap.size + 4 ≤ wx.heap.size ∧ Below w.heap.size w wx) := fun wx h => by
    have g0 := (h.block _ (lt_of_get k0)).trans k0
    have g1 := (h.block _ (lt_of_get k1)).trans k1
    exact ⟨⟨(cell_two g0).1, (cell_two g0).2.1, (cell_two g1).1, (cell_two g1).2.1⟩, (h.block _ (lt_of_get k2)).trans k2, (h.block _ (lt_of_get k3)).trans k3, by have := h.size; omega, hB0.trans (h.mono hB0.size)⟩
  obtain ⟨⟨C0, l0⟩, hE0⟩ : ∃ E, graphErr M xs = E := ⟨_, rfl⟩
  obtain ⟨⟨C1, l1⟩, hE1⟩ : ∃ E, graphErr N ys = E := ⟨_, rfl⟩
  have HD0 : Hid (∀ wx, Below W0.heap.size W0 wx → Calls Try.prog 29 #[.agg #[.int .i64 M, .slice ao xs.length ac]] wx fun e w' => ∃ lo lc, e = .returned (.agg #[.int .i64 C0, .slice lo l0.length lc]) ∧ HasPlaces w' (.slice lo l0.length lc) l0 ∧ Below wx.heap.size wx w') := fun wx h => by
    have := docCheck_calls M ao ac xs wx (hx.keep (HK.out wx h).2.2.2.2) hmx
    rw [hE0] at this
    exact this
  have HD1 : Hid (∀ wx, Below W0.heap.size W0 wx → Calls Try.prog 29 #[.agg #[.int .i64 N, .slice bo ys.length bc]] wx fun e w' => ∃ lo lc, e = .returned (.agg #[.int .i64 C1, .slice lo l1.length lc]) ∧ HasPlaces w' (.slice lo l1.length lc) l1 ∧ Below wx.heap.size wx w') := fun wx h => by
    have := docCheck_calls N bo bc ys wx (hy.keep (HK.out wx h).2.2.2.2) hmy
    rw [hE1] at this
    exact this
  have HF : Hid (∀ (b : Nat) (wx : World) (o0 o1 : Option Addr) (k0 k1 : Nat), wx.heap[b]? = some (.cells #[.int .i64 C0, .slice o0 l0.length k0, .int .i64 C1, .slice o1 l1.length k1] 45) → Calls Try.prog 33 #[.slice (some ⟨b, 0, none⟩) 2 2] wx fun e w' => ∃ C ps po pc, e = .returned (.agg #[.int .i64 C, .slice po ps.length pc]) ∧ ((C, ps) = firstE (C0, l0) (C1, l1) ∧ ∀ wz, HasPlaces wz (.slice o0 l0.length k0) l0 → HasPlaces wz (.slice o1 l1.length k1) l1 → HasPlaces wz (.slice po ps.length pc) ps) ∧ Below wx.heap.size wx w') := fun b wx o0 o1 k0 k1 hbk => by
    refine (refFirst2_calls b C0 C1 l0 l1 o0 o1 k0 k1 wx (by simp [World.cell?, hbk]) (by simp [World.cell?, hbk]) (by simp [World.cell?, hbk]) (by simp [World.cell?, hbk])).mono ?_
    rintro e w' ⟨h, hb⟩
    rcases h with ⟨h0, ⟨h1, h1'⟩, he⟩ | ⟨h0, h1, he⟩ | ⟨h0, he⟩
    · refine ⟨0, [], none, 0, he, ⟨?_, fun wz _ _ => ⟨none, 0, rfl, fun j p hj => by simp at hj⟩⟩, hb⟩
      unfold firstE
      rw [if_pos h0, h1, h1']
    · refine ⟨C1, l1, o1, k1, he, ⟨?_, fun wz _ h => h⟩, hb⟩
      unfold firstE
      rw [if_pos h0]
    · refine ⟨C0, l0, o0, k0, he, ⟨?_, fun wz h _ => h⟩, hb⟩
      unfold firstE
      rw [if_neg h0]
  have HX : Hid (HasArcs w (.slice ao xs.length ac) xs) := hx
  have HY : Hid (HasArcs w (.slice bo ys.length bc) ys) := hy
  have HE01 : Hid (graphErr M xs = (C0, l0) ∧ graphErr N ys = (C1, l1)) := ⟨hE0, hE1⟩
  clear hE0 hE1
  have tok1 : True := trivial
  have tok2 : True := trivial
  have tok3 : True := trivial
  have o0 : w.heap.size ≠ W0.heap.size := by omega
  have o1 : W0.heap.size ≠ w.heap.size := by omega
  have o2 : w.heap.size + 1 ≠ W0.heap.size := by omega
  have o3 : W0.heap.size ≠ w.heap.size + 1 := by omega
  have HS0 : Hid (W0.heap.size = w.heap.size + 4) := hs0
  clear hW0 hB0 k0 k1 k2 k3 hmx hmy hx hy hs0
  go_enter Try.func15, Try.ntmps15
  go_upto_region 1 with fail
  rw [HW0.out]
  obtain ⟨⟨c0, c1, c2, c3⟩, _, _, cs, _⟩ := HK.out W0 (Below.refl _ _)
  go_cut [6] (fun c wx => FirstLaid W0 (firstE (C0, l0) (C1, l1)) c wx)
  case first =>
    go_region_held3 (fun w' => w'.cell? ⟨w.heap.size, 0, none⟩ = some (.int .i64 M) ∧ w'.cell? ⟨w.heap.size, 1, none⟩ = some (.slice ao xs.length ac) ∧ w'.cell? ⟨w.heap.size + 1, 0, none⟩ = some (.int .i64 N) ∧ w'.cell? ⟨w.heap.size + 1, 1, none⟩ = some (.slice bo ys.length bc)) (go_keep) (first
      | (go_at_call 29; have _t := tok1; refine (HD0.out _ ?_).mono ?_; (first | exact (Below.refl _ _).drew | exact ((Below.refl _ _).alloc (Nat.le_refl _) _).drew); rintro e w1 ⟨lo0, lc0, rfl, hP0, hb1⟩; have HP0 : Hid (HasPlaces w1 (.slice lo0 l0.length lc0) l0) := hP0; have HB1 : Hid (Below W0.heap.size W0 w1) := (by first | exact (Below.refl _ _).drew.trans hb1 | exact ((Below.refl _ _).alloc (Nat.le_refl _) _).drew.trans (hb1.mono (by simp))); obtain ⟨⟨q0, q1, q2, q3⟩, _, _, qs, _⟩ := HK.out w1 HB1.out; obtain ⟨d0, d1⟩ := bcell hb1; have z1 := hb1.size; (try (have zz1 : W0.heap.size < w1.heap.size := (by have h := hb1.size; (try simp at h); omega))); have u0 : w.heap.size ≠ w1.heap.size := (by omega); have u1 : w1.heap.size ≠ w.heap.size := (by omega); have u2 : w.heap.size + 1 ≠ w1.heap.size := (by omega); have u3 : w1.heap.size ≠ w.heap.size + 1 := (by omega);  have HBB1 : Hid _ := hb1; clear hb1 hP0 tok1)
      | (go_at_call 29; have _t := tok2; refine (HD1.out _ ?_).mono ?_; (first | exact HB1.out | exact HB1.out.alloc HB1.out.size _); rintro e w2 ⟨lo1, lc1, rfl, hP1, hb2⟩; have HP1 : Hid (HasPlaces w2 (.slice lo1 l1.length lc1) l1) := hP1; have HP2 : Hid (HasPlaces w2 (.slice lo0 l0.length lc0) l0) := (by first | exact HP0.out.keep hb2 | exact (HP0.out.keep ((Below.refl _ _).alloc (Nat.le_refl _) _)).keep hb2); have HB2 : Hid (Below W0.heap.size W0 w2) := (by first | exact HB1.out.trans (hb2.mono HB1.out.size) | exact (HB1.out.alloc HB1.out.size _).trans (hb2.mono (by have := HB1.out.size; simp; omega))); obtain ⟨⟨r0, r1, r2, r3⟩, _, _, rs, _⟩ := HK.out w2 HB2.out; obtain ⟨f0, f1⟩ := bcell hb2; have z2 := hb2.size; (try (have zz2 : w1.heap.size < w2.heap.size := (by have h := hb2.size; (try simp at h); omega))); have zz4 : w1.heap.size ≤ w2.heap.size := (by have h := hb2.size; (try simp at h); omega); have zz6 : w1.heap.size < w2.heap.size + 1 := (by omega); (try (have zz3 : W0.heap.size < w2.heap.size := (by omega))); (try (have zz5 : W0.heap.size ≤ w2.heap.size := (by omega))); have v0 : w.heap.size ≠ w2.heap.size := (by omega); have v1 : w2.heap.size ≠ w.heap.size := (by omega); have v2 : w.heap.size + 1 ≠ w2.heap.size := (by omega); have v3 : w2.heap.size ≠ w.heap.size + 1 := (by omega); have y0 : w.heap.size ≠ w2.heap.size + 1 := (by omega); have y1 : w2.heap.size + 1 ≠ w.heap.size := (by omega); have y2 : w.heap.size + 1 ≠ w2.heap.size + 1 := (by omega); have y3 : w2.heap.size + 1 ≠ w.heap.size + 1 := (by omega);  have HBB2 : Hid _ := hb2; clear hb2 hP1 tok2)
      | (go_at_call 33; have _t := tok3; refine (HF.out _ _ lo0 lo1 lc0 lc1 ?_).mono ?_; (first | exact heap_new _ _ | exact (Below.heap_alloc _ _ _ (by simp)).trans (heap_new _ _) | (have h := heap_new (w2.alloc (.cells #[.int .i64 0, .slice none 0 0] 45)) (.cells #[.int .i64 C0, .slice lo0 l0.length lc0, .int .i64 C1, .slice lo1 l1.length lc1] 45); simpa using h)); rintro e w3 ⟨C, ps, po, pc, rfl, hq, hb3⟩; have HQ : Hid _ := hq; have HB3 : Hid (Below W0.heap.size W0 w3) := (by first | exact (HB2.out.alloc HB2.out.size _).trans (hb3.mono (by have := HB2.out.size; simp; omega)) | exact ((HB2.out.alloc HB2.out.size _).alloc (by have := HB2.out.size; simp; omega) _).trans (hb3.mono (by have := HB2.out.size; simp; omega))); have HPZ : Hid (HasPlaces w3 (.slice po ps.length pc) ps) := (by first | exact hq.2 w3 ((HP2.out.keep ((Below.refl _ _).alloc (Nat.le_refl _) _)).keep hb3) ((HP1.out.keep ((Below.refl _ _).alloc (Nat.le_refl _) _)).keep hb3) | exact hq.2 w3 ((HP2.out.keep (((Below.refl _ _).alloc (Nat.le_refl _) _).alloc (by simp) _)).keep hb3) ((HP1.out.keep (((Below.refl _ _).alloc (Nat.le_refl _) _).alloc (by simp) _)).keep hb3)); obtain ⟨⟨s0, s1, s2, s3⟩, _, _, ss, _⟩ := HK.out w3 HB3.out; have HBB3 : Hid _ := hb3; obtain ⟨g0, g1⟩ := bcell hb3; have z3 := hb3.size; clear hb3 hq tok3))
    all_goals (go_wp2_with fail; go_meet)
    all_goals first
      | exact laid_new HQ.out.1 HPZ.out HB3.out
      | (refine laid_old (g := w2.heap.size) HQ.out.1 HPZ.out HB3.out ?_ ?_
         · have := HB2.out.size
           omega
         · refine (HBB3.out.block _ ?_).trans ((Below.heap_alloc _ _ _ ?_).trans (heap_new _ _))
           · simp
             omega
           · simp)
      | (refine laid_old (g := w2.heap.size + 1) HQ.out.1 HPZ.out HB3.out ?_ ?_
         · have := HB2.out.size
           omega
         · refine (HBB3.out.block _ ?_).trans ?_
           · simp
           · have h := heap_new (w2.alloc (.cells #[.int .i64 C0, .slice lo0 l0.length lc0, .int .i64 C1, .slice lo1 l1.length lc1] 45)) (.cells #[.int .i64 0, .slice none 0 0] 45)
             simpa using h)
      | (refine laid_old (g := w1.heap.size) HQ.out.1 HPZ.out HB3.out ?_ ?_
         · have := HB1.out.size
           omega
         · refine (HBB3.out.block _ ?_).trans ((Below.heap_alloc _ _ _ ?_).trans ((HBB2.out.block _ ?_).trans (heap_new _ _)))
           · simp
             omega
           · omega
           · simp)
      | (refine laid_old (g := W0.heap.size) HQ.out.1 HPZ.out HB3.out (Nat.le_refl _) ?_
         · refine (HBB3.out.block _ ?_).trans ((Below.heap_alloc _ _ _ ?_).trans ((HBB2.out.block _ ?_).trans ((HBB1.out.block _ ?_).trans (heap_new _ _))))
           · simp
             omega
           · omega
           · omega
           · simp)
  case rest =>
    obtain ⟨g, C, ps, po, pc, rfl, hE, hg, hP, hb⟩ := hcut
    have HE : Hid ((C, ps) = firstE (C0, l0) (C1, l1)) := hE
    have HG : Hid (wc.heap[g]? = some (.cells #[.int .i64 C, .slice po ps.length pc] 45)) := hg
    have HP : Hid (HasPlaces wc (.slice po ps.length pc) ps) := hP
    have HB : Hid (Below W0.heap.size W0 wc) := hb
    clear hE hP hb c0 c1 c2 c3 cs o0 o1 o2 o3 tok1 tok2 tok3
    generalize wc = w1 at *
    obtain ⟨e0, e1, _, _⟩ := cell_two hg
    have hgl : g < w1.heap.size := lt_of_get hg
    have HBD : Hid (Calls Try.prog 30 #[.agg #[.int .i64 C, .slice po ps.length pc]] w1 fun e w' => e = .returned (.bool (!decide (C = 0 ∧ ps = []))) ∧ Below w1.heap.size w1 w') := by
      have h := bad_calls C po ps.length pc w1
      rw [badB] at h
      exact h
    clear hg
    by_cases hbad : C = 0 ∧ ps = []
    · rw [decide_eq_true hbad] at HBD
      obtain ⟨rfl, rfl⟩ := hbad
      have HG0 : Hid (graphErr M xs = (0, []) ∧ graphErr N ys = (0, [])) := by
        have h := HE.out
        unfold firstE at h
        split at h
        · rename_i h0
          exact ⟨by rw [HE01.out.1]; exact Prod.ext h0.1 h0.2, by rw [HE01.out.2]; exact h.symm⟩
        · rename_i h0
          exact absurd ⟨(congrArg Prod.fst h).symm, (congrArg Prod.snd h).symm⟩ h0
      have hlx := graph_short HG0.out.1
      have hly := graph_short HG0.out.2
      go_wp2_with fail
      refine HBD.out.mono ?_
      rintro e w2 ⟨rfl, hb2⟩
      have HB2 : Hid (Below W0.heap.size W0 w2) := HB.out.trans (hb2.mono HB.out.size)
      clear hb2 e0 e1 hgl
      obtain ⟨⟨c0, c1, c2, c3⟩, g2, g3, hs2, hbw⟩ := HK.out w2 HB2.out
      obtain ⟨d0, d1, y0, y1⟩ := cell_two g2
      obtain ⟨f0, f1, x0, x1⟩ := cell_two g3
      have hl3 : w.heap.size + 1 + 1 + 1 < w2.heap.size := lt_of_get g3
      have hl2 : w.heap.size + 1 + 1 < w2.heap.size := lt_of_get g2
      have hl1 : w.heap.size + 1 < w2.heap.size := by omega
      have hl0 : w.heap.size < w2.heap.size := by omega
      have H2 : Hid (w2.heap[w.heap.size + 1 + 1]? = some (.cells #[.int .i64 0, .slice none 0 0] 24) ∧ w2.heap[w.heap.size + 1 + 1 + 1]? = some (.cells #[.int .i64 0, .slice none 0 0] 45) ∧ Below w.heap.size w w2) := ⟨g2, g3, hbw⟩
      clear g2 g3 hbw
      have p0 : ¬ w.heap.size + 1 + 1 = w.heap.size + 1 + 1 + 1 := by omega
      have p1 : ¬ w.heap.size + 1 + 1 + 1 = w.heap.size + 1 + 1 := by omega
      have HEW : Hid (∀ n wx, Calls Try.prog 34 #[.int .i64 n] wx fun e w' => e = .returned (.agg #[.int .i64 n, .slice none 0 0]) ∧ Below wx.heap.size wx w') := fun n wx => E_calls n wx
      by_cases hmn : M = N
      · subst hmn
        by_cases hlen : (262144 : Int) < (xs.length : Int) + (ys.length : Int)
        · have HBE : Hid (bothErr M M xs ys = (9, [])) := by show _ = _; unfold bothErr; rw [if_neg (by simp [HG0.out.1]), if_neg (by simp [HG0.out.2]), if_neg (by simp), if_pos (by omega)]
          go_wp2_with fail
          refine (HEW.out 9 _).mono ?_
          rintro e w3 ⟨rfl, hb3⟩
          have HB3 : Hid (Below W0.heap.size W0 w3) := HB2.out.trans (hb3.mono HB2.out.size)
          clear hb3 c0 c1 c2 c3 d0 d1 y0 y1 f0 f1 x0 x1 hl0 hl1 hl2 hl3 hs2
          obtain ⟨_, g2, g3, hs3, hbw⟩ := HK.out w3 HB3.out
          obtain ⟨d0, d1, y0, y1⟩ := cell_two g2
          obtain ⟨f0, f1, x0, x1⟩ := cell_two g3
          have H3 : Hid (Below w.heap.size w w3) := hbw
          clear g2 g3 hbw
          go_wp2
          refine bodyPost_ret (v := .tuple #[.agg #[.int .i64 0, .slice none 0 0], .agg #[.int .i64 9, .slice none 0 0]]) (by simp [results, Try.results15, go_sem, d0, d1, f0, f1]) rfl ?_
          rw [HBE.out]
          exact ⟨0, none, 0, 0, [], none, 0, rfl, no_arcs _, newA_nil _ _ _, no_places _, Or.inr ⟨by simp, rfl, rfl⟩, lay_four H3.out (by omega) (by omega) _ _ _ _⟩
        · have HBE : Hid (bothErr M M xs ys = (0, [])) := by show _ = _; unfold bothErr; rw [if_neg (by simp [HG0.out.1]), if_neg (by simp [HG0.out.2]), if_neg (by simp), if_neg (by omega)]
          obtain ⟨i0, hi, hz0, hz1, hz2⟩ : ∃ i, Try.prog.info? 42 = some i ∧ i.zero = some (.agg #[.int .i64 0, .int .i64 0, .int .i64 0]) ∧ i.size = 3 ∧ i.bytes = 24 := by
            have h := Try.info51
            cases hi : Try.prog.info? 42 with
            | none => rw [hi] at h; cases h
            | some i => rw [hi] at h; simp at h; exact ⟨i, rfl, h.1, h.2.1, h.2.2⟩
          have HTW : Hid (type_of% (twin_calls M ao ac xs w2 (HX.out.keep H2.out.2.2) hlx)) := twin_calls M ao ac xs w2 (HX.out.keep H2.out.2.2) hlx
          go_wp2_with fail
          refine HTW.out.mono ?_
          rintro e w3 ⟨lo, lc, rfl, hown, hb3⟩
          obtain ⟨cb, hcb⟩ : ∃ cb, w3.heap.size = cb := ⟨_, rfl⟩
          obtain ⟨W4, hW4⟩ : ∃ W4, w3.alloc (.cells #[.int .i64 M, .slice lo xs.length lc] 24) = W4 := ⟨_, rfl⟩
          have HW4 : Hid (w3.alloc (.cells #[.int .i64 M, .slice lo xs.length lc] 24) = W4) := hW4
          have HCB : Hid (w3.heap.size = cb) := hcb
          have HM0 : Hid (MI W0 M cb (xs ++ ys.take 0) (.slice lo xs.length lc) W4) := by
            have hb4 : Below w3.heap.size w3 W4 := by rw [← hW4]; exact (Below.refl _ _).alloc (Nat.le_refl _) _
            have hB3 := HB2.out.trans (hb3.mono HB2.out.size)
            refine ⟨?_, fun e => ?_, ?_, by rw [← hcb]; exact hB3.size, hB3.trans (hb4.mono hB3.size)⟩
            · rw [List.take_zero, List.append_nil]
              exact rowA_keep (rowA_base hown HB2.out.size) (fun g _ hg => hb4.block g hg)
            · have := (hown.lt cb e).2
              omega
            · rw [← hW4, ← hcb]; exact heap_new _ _
          clear hown hb3 hcb hW4 c0 c1 c2 c3 d0 d1 y0 y1 f0 f1 x0 x1 hl0 hl1 hl2 hl3 hs2
          obtain ⟨⟨_, _, _, c3⟩, _, _, cs4, _⟩ := HK.out W4 HM0.out.below
          go_upto_region 9 with fail
          rw [HW4.out, HCB.out]
          have hl1 : w.heap.size + 1 < W4.heap.size := by omega
          go_wp2_with fail
          go_loopw [45] (fun iv wr => ∃ k : Nat, k ≤ ys.length ∧ iv = .int .i64 k ∧ ∃ sv, MI W0 M cb (xs ++ ys.take k) sv wr) (fun iv _ => ys.length - (intOf iv).toNat)
          case atStart => exact ⟨0, Nat.zero_le _, rfl, _, HM0.out⟩
          case round =>
            obtain ⟨k, hk, rfl, sv, hinv⟩ := hrel
            have HI : Hid (MI W0 M cb (xs ++ ys.take k) sv wr) := hinv
            obtain ⟨so, sc, hsv⟩ := rowA_slice hinv.row
            subst hsv
            clear hinv c3 cs4
            obtain ⟨d0, d1, z0, z1⟩ := cell_two HI.out.c
            have hlc : cb < wr.heap.size := lt_of_get HI.out.c
            by_cases hlt : k < ys.length
            · obtain ⟨a, ha⟩ : ∃ a, ys[k]? = some a := ⟨ys[k], List.getElem?_eq_getElem hlt⟩
              obtain ⟨b, off, hao, hbl, q0, q1, q2⟩ := (HY.out.keep (HK.out wr HI.out.below).2.2.2.2).at ha
              subst hao
              have HTK : Hid (xs ++ ys.take (k + 1) = (xs ++ ys.take k) ++ [a]) := by
                show _ = _
                obtain ⟨hl, he⟩ := List.getElem?_eq_some_iff.1 ha
                rw [List.take_succ_eq_append_getElem hl, he, List.append_assoc]
              have HLN : Hid ((xs ++ ys.take k).length = xs.length + k) := by show _ = _; rw [List.length_append, List.length_take]; omega
              clear ha
              generalize xs ++ ys.take k = L at *
              obtain ⟨m, hm⟩ : ∃ m, L.length = m := ⟨_, rfl⟩
              rw [hm] at d1 HI HLN
              have HI4 : Hid (∀ X Y, MI W0 M cb L (.slice so m sc) ((wr.alloc (.cells #[.int .i64 a.1, .int .i64 a.2.1, .int .i64 a.2.2] X)).alloc (.cells #[.int .i64 a.1, .int .i64 a.2.1, .int .i64 a.2.2] Y))) := fun X Y => (HI.out.keep ((Below.refl _ _).alloc (Nat.le_refl _) _)).keep ((Below.refl _ _).alloc (Nat.le_refl _) _)
              have HML : Hid (L.length = m) := hm
              have hm6 : m ≤ 262144 := by have := HLN.out; omega
              have b0 : (0 : Int) ≤ (k : Int) := by omega
              have b1 : (k : Int) < (ys.length : Int) := by omega
              clear hm
              go_wp2_with (at_builtin; refine wpList_append_lies _ (by rfl) _ _ 22 (by rfl) W0.heap.size 42 i0 (.agg #[.int .i64 0, .int .i64 0, .int .i64 0]) 3 24 Try.underlying22 hi hz0 hz1 hz2 rfl (by decide) (.slice so m sc) m (flatA L) (by rfl) ?hown ⟨wr.heap.size + 1, 0, none⟩ 1 1 [.int .i64 a.1, .int .i64 a.2.1, .int .i64 a.2.2] (by rfl) rfl ?hnews ?hone (by decide) ?h63 ?hby ?hbase (wr.heap.size + 1 + 1) (by simp) ?_; (case hown => (have h := (HI4.out 42 42).row; rw [HML.out] at h; exact h)); (case hnews => (intro j x hx; rcases j with _ | _ | _ | j <;> simp at hx <;> subst hx <;> simp [Addr.add])); (case hone => (intro x hx; simp at hx; rcases hx with rfl | rfl | rfl <;> rfl)); (case h63 => (unfold maxLen; omega)); (case hby => omega); (case hbase => (have := (HI4.out 42 42).below.size; exact this)); intro g2 cap2 w5 hown5 hgrow5 hat5 hlt5; have HO5 : Hid _ := hown5; have HGR5 : Hid _ := hgrow5; have HAT5 : Hid _ := hat5; have hC5 : w5.heap[cb]? = some (.cells #[.int .i64 M, .slice so m sc] 24) := (hgrow5.block cb (lt_of_get (HI4.out 42 42).c) (fun e => HI.out.ne e.symm)).trans (HI4.out 42 42).c; obtain ⟨j0, j1, j2, j3⟩ := cell_two hC5; have HC5 : Hid _ := hC5; clear hown5 hgrow5 hat5 hC5)
              refine ⟨⟨k + 1, by omega, by go_num, .slice (some ⟨g2, 0, none⟩) (m + 1) cap2, ?_, ?_, ?_, HI.out.old, ?_⟩, by simp [intOf]; omega⟩
              · rw [HTK.out, flatA_append, List.length_append, HML.out]
                refine rowA_keep1 HO5.out (fun g hg => heap_setCell_other _ _ _ _ ?_)
                have e : g2 = g := Option.some.inj hg
                show g ≠ cb
                rcases HAT5.out with h | h
                · exact fun e2 => HI.out.ne (by rw [h, e, e2])
                · omega
              · intro e
                have e' : g2 = cb := Option.some.inj e
                rcases HAT5.out with h | h
                · exact HI.out.ne (by rw [h, e'])
                · omega
              · simp only [World.setCell, Array.getElem?_modify]
                rw [if_pos trivial, HC5.out]
                rfl
              · exact ((HI4.out 42 42).below.grown HGR5.out (HI4.out 42 42).below.size HI.out.own).setCell (p := ⟨cb, 1, none⟩) HI.out.old _
            · obtain rfl : k = ys.length := by omega
              have HLN : Hid ((xs ++ ys.take ys.length).length = xs.length + ys.length) := by show _ = _; rw [List.take_length, List.length_append]
              have HA : Hid (HasArcs wr (.slice so (xs.length + ys.length) sc) (xs ++ ys)) := by
                have h := arcs_of_row HI.out.row
                rw [HLN.out, List.take_length] at h
                exact h
              have HNW : Hid (NewA w.heap.size (.slice so (xs.length + ys.length) sc)) := newA_of fun a ha => by
                have h1 := HI.out.own a.block (by rw [ha]; rfl)
                have h2 := HS0.out
                omega
              rw [HLN.out] at d1
              obtain ⟨_, g2, g3, hs3, hbw⟩ := HK.out wr HI.out.below
              obtain ⟨t0, t1, y0, y1⟩ := cell_two g2
              obtain ⟨f0, f1, x0, x1⟩ := cell_two g3
              have H3 : Hid (wr.heap[w.heap.size + 1 + 1]? = some (.cells #[.int .i64 0, .slice none 0 0] 24) ∧ wr.heap[w.heap.size + 1 + 1 + 1]? = some (.cells #[.int .i64 0, .slice none 0 0] 45) ∧ Below w.heap.size w wr) := ⟨g2, g3, hbw⟩
              have hcbo : w.heap.size + 4 ≤ cb := by have h1 := HS0.out; have h2 := HI.out.old; omega
              have n0 : ¬ cb = w.heap.size + 1 + 1 := by omega
              have n1 : ¬ w.heap.size + 1 + 1 = cb := by omega
              have n2 : ¬ cb = w.heap.size + 1 + 1 + 1 := by omega
              have n3 : ¬ w.heap.size + 1 + 1 + 1 = cb := by omega
              clear g2 g3 hbw
              go_wp2
              refine bodyPost_ret (v := .tuple #[.agg #[.int .i64 M, .slice so (xs.length + ys.length) sc], .agg #[.int .i64 0, .slice none 0 0]]) (by simp [results, Try.results15, go_sem, t0, t1, f0, f1]) rfl ?_
              rw [HBE.out]
              exact ⟨M, so, xs.length + ys.length, sc, xs ++ ys, none, 0, rfl, HA.out.lay H3.out.1 H3.out.2.1 _ _ _ _, HNW.out, no_places _, Or.inl ⟨rfl, rfl, rfl⟩, lay_four H3.out.2.2 (by omega) (by omega) _ _ _ _⟩
      · have HBE : Hid (bothErr M N xs ys = (1, [])) := by show _ = _; unfold bothErr; rw [if_neg (by simp [HG0.out.1]), if_neg (by simp [HG0.out.2]), if_pos hmn]
        go_wp2_with fail
        refine (HEW.out 1 _).mono ?_
        rintro e w3 ⟨rfl, hb3⟩
        have HB3 : Hid (Below W0.heap.size W0 w3) := HB2.out.trans (hb3.mono HB2.out.size)
        clear hb3 c0 c1 c2 c3 d0 d1 y0 y1 f0 f1 x0 x1 hl0 hl1 hl2 hl3 hs2
        obtain ⟨_, g2, g3, hs3, hbw⟩ := HK.out w3 HB3.out
        obtain ⟨d0, d1, y0, y1⟩ := cell_two g2
        obtain ⟨f0, f1, x0, x1⟩ := cell_two g3
        have H3 : Hid (Below w.heap.size w w3) := hbw
        clear g2 g3 hbw
        go_wp2
        refine bodyPost_ret (v := .tuple #[.agg #[.int .i64 0, .slice none 0 0], .agg #[.int .i64 1, .slice none 0 0]]) (by simp [results, Try.results15, go_sem, d0, d1, f0, f1]) rfl ?_
        rw [HBE.out]
        exact ⟨0, none, 0, 0, [], none, 0, rfl, no_arcs _, newA_nil _ _ _, no_places _, Or.inr ⟨by simp, rfl, rfl⟩, lay_four H3.out (by omega) (by omega) _ _ _ _⟩
    · rw [decide_eq_false hbad] at HBD
      have HBE : Hid (bothErr M N xs ys = (C, ps) ∧ (C, ps) ≠ ((0 : Int), ([] : List (Int × Int)))) := by
        refine ⟨?_, fun e => hbad ⟨congrArg Prod.fst e, congrArg Prod.snd e⟩⟩
        have h := HE.out
        unfold firstE at h
        unfold bothErr
        rw [HE01.out.1, HE01.out.2]
        split at h
        · rename_i h0
          have e0 : (C0, l0) = ((0 : Int), ([] : List (Int × Int))) := Prod.ext h0.1 h0.2
          rw [if_neg (by simp [e0]), if_pos (by rw [← h]; exact fun e => hbad ⟨congrArg Prod.fst e, congrArg Prod.snd e⟩), h]
        · rw [if_pos (by rw [← h]; exact fun e => hbad ⟨congrArg Prod.fst e, congrArg Prod.snd e⟩), h]
      go_wp2_with fail
      refine HBD.out.mono ?_
      rintro e w2 ⟨rfl, hb2⟩
      have HB2 : Hid (Below W0.heap.size W0 w2) := HB.out.trans (hb2.mono HB.out.size)
      have HP2 : Hid (HasPlaces w2 (.slice po ps.length pc) ps) := HP.out.keep hb2
      have hG2 := (hb2.block g hgl).trans HG.out
      have hgw : w.heap.size + 4 ≤ g ∨ g < w.heap.size + 4 := by omega
      clear hb2 e0 e1
      obtain ⟨e0, e1, _, _⟩ := cell_two hG2
      have hgl2 : g < w2.heap.size := lt_of_get hG2
      obtain ⟨_, g2, g3, hs2, hbw⟩ := HK.out w2 HB2.out
      obtain ⟨d0, d1, y0, y1⟩ := cell_two g2
      obtain ⟨f0, f1, x0, x1⟩ := cell_two g3
      have H2 : Hid (w2.heap[w.heap.size + 1 + 1]? = some (.cells #[.int .i64 0, .slice none 0 0] 24) ∧ w2.heap[w.heap.size + 1 + 1 + 1]? = some (.cells #[.int .i64 0, .slice none 0 0] 45) ∧ Below w.heap.size w w2) := ⟨g2, g3, hbw⟩
      have n0 : ¬ g = w.heap.size + 1 + 1 := fun e => by
        subst e
        have h := Option.some.inj (hG2.symm.trans g2)
        simp at h
      have n2 : ¬ g = w.heap.size + 1 + 1 + 1 := fun e => by
        subst e
        have h := Option.some.inj (hG2.symm.trans g3)
        simp at h
        exact hbad ⟨h.1, h.2.2.1⟩
      have n1 : ¬ w.heap.size + 1 + 1 = g := fun e => n0 e.symm
      have n3 : ¬ w.heap.size + 1 + 1 + 1 = g := fun e => n2 e.symm
      clear g2 g3 hbw hG2 hgw hbad
      go_wp2_with fail
      go_region_held3 (fun w' => w'.cell? ⟨g, 0, none⟩ = some (.int .i64 C) ∧ w'.cell? ⟨g, 1, none⟩ = some (.slice po ps.length pc)) (go_keep) (first | fail)
      all_goals
        go_wp2
        refine bodyPost_ret (v := .tuple #[.agg #[.int .i64 0, .slice none 0 0], .agg #[.int .i64 C, .slice po ps.length pc]]) (by simp [results, Try.results15, go_sem, d0, d1, f0, f1]) rfl ?_
        rw [HBE.out.1]
        exact ⟨0, none, 0, 0, [], po, pc, rfl, no_arcs _, newA_nil _ _ _, HP2.out.lay H2.out.1 H2.out.2.1 _ _ _ _, Or.inr ⟨HBE.out.2, rfl, rfl⟩, (lay_four H2.out.2.2 (by omega) (by omega) _ _ _ _).drew⟩
end Go.Proofs.Ytbfopkhdngfanaa
