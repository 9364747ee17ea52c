/- viaductref10.Graph at every hierarchy in form: the normal graph of its plain links. (genie.py) -/
import Derived.Test.YtkehpmbnbknpfaaHeX
import Derived.Test.YtkehpmbnbknpfaaGrX
import Derived.Test.YtkehpmbnbknpfaaNoX
namespace Go.Proofs.Ytkehpmbnbknpfaa.Hi
open Go.RowKit Go.Extern Go.Sort Go.Shelf

attribute [local go_sem] Oper.semAt_some

/-- arcs that no two share their ends and none is a loop: sorted, they are the normal list. -/
theorem sortE_norm {L : List (Int × Int × Int)} (hd : L.Pairwise fun a b => ¬ sameA a b) (hl : ∀ a ∈ L, a.1 ≠ a.2.1) : normA L = sortE L := by
  refine (NormOf.unique (P := (· ∈ kept L)) ?_ (normA_norm _)).symm
  refine ⟨sortE_rise hd, fun x hx => ?_, fun y hy => ?_⟩
  · rw [kept_mem]
    exact ⟨sortE_mem.1 hx, hl x (sortE_mem.1 hx)⟩
  · exact ⟨y, sortE_mem.2 (kept_mem.1 hy).1, ⟨rfl, rfl⟩, Int.le_refl _⟩
theorem graph_norm {h : Hr} (hc : chk h = (0, [])) : normA (gArcs h (stds h)) = sortE (gArcs h (stds h)) := sortE_norm (garcs_apart hc) (fun _ ha => (garcs_good hc ha).2)
theorem gtake_yes {h : Hr} {k : Nat} (hk : k < (stds h).length) (hp : (sd (stds h) k).lk.plain = true) : gArcs h ((stds h).take (k + 1)) = gArcs h ((stds h).take k) ++ [arcOf h (sd (stds h) k)] := by
  rw [List.take_add_one, sd_get hk]
  show gArcs h (_ ++ [_]) = _
  rw [gArcs_snoc, if_pos hp]
theorem gtake_no {h : Hr} {k : Nat} (hk : k < (stds h).length) (hp : (sd (stds h) k).lk.plain = false) : gArcs h ((stds h).take (k + 1)) = gArcs h ((stds h).take k) := by
  rw [List.take_add_one, sd_get hk]
  show gArcs h (_ ++ [_]) = _
  rw [gArcs_snoc, if_neg (by rw [hp]; simp), List.append_nil]
theorem build_g (n : Int) (wx : World) : (Instr.build 35 #[(0, .int .i64 n)]).run Try.prog wx = .ok (.agg #[.int .i64 n, .slice none 0 0]) wx := by kernel_rfl
theorem build_arcV (a b c : Int) (wx : World) : (Instr.build 49 #[(0, .int .i64 a), (1, .int .i64 b), (2, .int .i64 c)]).run Try.prog wx = .ok (.agg #[.int .i64 a, .int .i64 b, .int .i64 c]) wx := by kernel_rfl
theorem build_arc1 (a b c : Int) (wx : World) : (Instr.buildSlice 33 1 #[(0, .agg #[.int .i64 a, .int .i64 b, .int .i64 c])]).run Try.prog wx = .ok (.slice (some ⟨wx.heap.size, 0, none⟩) 1 1) (wx.alloc (.cells #[.int .i64 a, .int .i64 b, .int .i64 c] 49)) := by kernel_rfl
theorem infoArcs : (Try.prog.info? 49).map (fun i => (i.zero, i.size, i.bytes)) = some (some (.agg #[.int .i64 0, .int .i64 0, .int .i64 0]), 3, 24) := by kernel_rfl
theorem cells_three {w : World} {g : Nat} {a0 a1 a2 : Value} {T : TypeId} (h : w.heap[g]? = some (.cells #[a0, a1, a2] T)) : ∀ j u, [a0, a1, a2][j]? = some u → w.cell? ((⟨g, 0, none⟩ : Addr).add j) = some u := fun j u hj => by
  have e : (⟨g, 0, none⟩ : Addr).add j = ⟨g, j, none⟩ := by
    by_cases h0 : j = 0
    · subst h0; rfl
    · simp [Addr.add, h0]
  rw [e]
  rcases j with _ | _ | _ | j
  · simp at hj; rw [← hj]; simp [World.cell?, h]
  · simp at hj; rw [← hj]; simp [World.cell?, h]
  · simp at hj; rw [← hj]; simp [World.cell?, h]
  · simp at hj
theorem set_snd {W : World} {b : Nat} {p q : Value} {T : TypeId} (h : W.heap[b]? = some (.cells #[p, q] T)) (y : Value) : (W.setCell ⟨b, 1, none⟩ y).heap[b]? = some (.cells #[p, y] T) := by
  have hlt := some_lt h
  simp only [World.setCell, Array.getElem?_modify]
  simp [h]
theorem arcs_own {w : World} {B : Nat} {v : Value} {L : List (Int × Int × Int)} {so : Option Addr} {sc : Nat} (hv : v = .slice so L.length sc) (h : w.ownsRow B 49 3 v L.length (flatA L)) : HasArcs w (.slice so L.length sc) L := by
  subst hv
  rcases h.2 with ⟨e, h0⟩ | ⟨g, cap, cur, e, hg, hh, hc, _⟩
  · have : L = [] := List.eq_nil_of_length_eq_zero h0
    subst this
    exact ⟨so, sc, rfl, fun j a hj => by simp at hj⟩
  · injection e with e1 _ e3
    subst e1
    refine ⟨_, sc, rfl, fun j a hj => ⟨g, 0, rfl, some_lt hh, ?_⟩⟩
    have hlt := (List.getElem?_eq_some_iff.1 hj).1
    have f0 := flatA_get L j a hj 0 (by omega)
    have f1 := flatA_get L j a hj 1 (by omega)
    have f2 := flatA_get L j a hj 2 (by omega)
    simp only [Nat.zero_add]
    exact ⟨(h.cellAt (j * 3) (by omega)).trans f0, (h.cellAt (j * 3 + 1) (by omega)).trans f1, (h.cellAt (j * 3 + 2) (by omega)).trans f2⟩
/-- while the plain links are gathered: z the argument, z + 1 the answer, z + 2 the graph under way. -/
structure GJ (w : World) (v : HV) (h : Hr) (z B : Nat) (mo : Option Addr) (mc : Nat) (L : List (Int × Int × Int)) (so : Option Addr) (sc : Nat) (W : World) : Prop where
  bx : W.heap[z]? = some (.cells (cellsH v h) 25)
  ax : W.heap[z + 1]? = some (.cells #[.int .i64 0, .slice none 0 0] 35)
  gx : W.heap[z + 2]? = some (.cells #[.int .i64 (h.node.length : Int), .slice so L.length sc] 35)
  es : HasEs W (.slice mo (stds h).length mc) h
  ow : W.ownsRow B 49 3 (.slice so L.length sc) L.length (flatA L)
  bl : Below w.heap.size w W
  sz : B ≤ W.heap.size
theorem GJ.keep {w : World} {v : HV} {h : Hr} {z B : Nat} {mo : Option Addr} {mc : Nat} {L : List (Int × Int × Int)} {so : Option Addr} {sc : Nat} {W W' : World} (g : GJ w v h z B mo mc L so sc W) (hb : Below W.heap.size W W') : GJ w v h z B mo mc L so sc W' :=
  ⟨(hb.block _ (some_lt g.bx)).trans g.bx, (hb.block _ (some_lt g.ax)).trans g.ax, (hb.block _ (some_lt g.gx)).trans g.gx, g.es.keep hb, own_upO g.ow hb, g.bl.trans (hb.mono g.bl.size), Nat.le_trans g.sz hb.size⟩
theorem GJ.step {w : World} {v : HV} {h : Hr} {z B : Nat} {mo : Option Addr} {mc : Nat} {L : List (Int × Int × Int)} {a : Int × Int × Int} {so po : Option Addr} {sc pc : Nat} {W W' : World} (hzB : z + 2 < B) (hwz : w.heap.size ≤ z) (g : GJ w v h z B mo mc L so sc W) (ho : W'.ownsRow B 49 3 (.slice po (L.length + 1) pc) (L.length + 1) (flatA L ++ encA a)) (hg : W.grownBy W' (Value.slice so L.length sc).ownBlock) :
    W'.heap[z + 2]? = some (.cells #[.int .i64 (h.node.length : Int), .slice so L.length sc] 35) ∧ GJ w v h z B mo mc (L ++ [a]) po pc (W'.setCell ⟨z + 2, 1, none⟩ (.slice po (L.length + 1) pc)) ∧ ∀ (k : Nat) (o : Obj), W.heap[k]? = some o → (∀ c, o ≠ .cells c 49) → W'.heap[k]? = some o := by
  have hblk : ∀ k, (Value.slice so L.length sc).ownBlock = some k → ∃ cur, W.heap[k]? = some (.cells cur 49) := fun k hk => by
    rcases g.ow.2 with ⟨e, _⟩ | ⟨b, cap, cur, e, _, hh, _⟩
    · rw [e] at hk; cases hk
    · rw [e] at hk; cases hk; exact ⟨cur, hh⟩
  have hother : ∀ (k : Nat) (o : Obj), W.heap[k]? = some o → (∀ c, o ≠ .cells c 49) → W'.heap[k]? = some o := fun k o hk hn => by
    refine (hg.block k (some_lt hk) (fun e => ?_)).trans hk
    obtain ⟨cur, hc⟩ := hblk k e.symm
    rw [hk] at hc
    cases hc
    exact hn cur rfl
  have far : ∀ k, k ≠ z + 2 → (W'.setCell ⟨z + 2, 1, none⟩ (.slice po (L.length + 1) pc)).heap[k]? = W'.heap[k]? := fun k hk => Below.heap_setCell _ _ _ _ (by exact hk)
  have hG := hother _ _ g.gx (fun c e => by cases e)
  have e1 : (L ++ [a]).length = L.length + 1 := by simp
  have e2 : flatA (L ++ [a]) = flatA L ++ encA a := by rw [flatA_append]; simp [flatA]
  have hbW : Below w.heap.size w W' := below_grown g.bl (own_lowO g.ow (by omega)) hg g.bl.size
  refine ⟨hG, ⟨?_, ?_, ?_, ?_, ?_, ?_, ?_⟩, hother⟩
  · exact (far z (by omega)).trans (hother _ _ g.bx (fun c e => by cases e))
  · exact (far (z + 1) (by omega)).trans (hother _ _ g.ax (fun c e => by cases e))
  · rw [e1]; exact set_snd hG _
  · refine g.es.far fun k cur hk => ?_
    have h1 := hother _ _ hk (fun c e => by cases e)
    refine (far k (fun e => ?_)).trans h1
    rw [e, g.gx] at hk
    cases hk
  · rw [e1, e2]
    refine own_keep ho fun k cur hk hh => (far k (fun e => ?_)).trans hh
    have := ho.lt k hk
    omega
  · exact hbW.setCell (p := ⟨z + 2, 1, none⟩) (by show w.heap.size ≤ z + 2; omega) _
  · have := hg.size
    have := g.sz
    simp [World.setCell]
    omega
theorem tri_at {w : World} {b : Nat} {c0 c1 c2 : Value} {T : TypeId} (h : w.heap[b]? = some (.cells #[c0, c1, c2] T)) : (w.cell? ⟨b, 0, none⟩ = some c0 ∧ w.cell? ⟨b, 1, none⟩ = some c1 ∧ w.cell? ⟨b, 2, none⟩ = some c2) ∧ w.frozen? ⟨b, 0, none⟩ = false ∧ w.frozen? ⟨b, 1, none⟩ = false ∧ w.frozen? ⟨b, 2, none⟩ = false := by simp [World.cell?, World.frozen?, h]
theorem gj_up {W W' : World} {b : Nat} {o : Obj} {p : Nat} {v : Value} (hb : Below W.heap.size W W') (_h : W.heap[b]? = some o) : Below (W.setCell ⟨b, p, none⟩ v).heap.size (W.setCell ⟨b, p, none⟩ v) (W'.setCell ⟨b, p, none⟩ v) := by
  refine ⟨hb.os, hb.tape, hb.output, by simpa [World.setCell] using hb.size, fun j hj => ?_⟩
  have hj' : j < W.heap.size := by simpa [World.setCell] using hj
  have e := hb.block j hj'
  simp only [World.setCell, Array.getElem?_modify, e]
theorem graphR_res {W : World} {z : Nat} {x0 x1 : Value} {tmps : Array Value} (h1 : W.heap[z]? = some (.cells #[x0, x1] 35)) (t2 : tmps[2]?.getD undef = .pointer (some ⟨z, 0, none⟩)) :
    (results Try.f41 tmps).run Try.prog W = .ok (.agg #[x0, x1]) W := by
  obtain ⟨c0, c1, _, _⟩ := cell_two h1
  simp [results, Try.results41, go_sem, t2, c0, c1]

set_option maxRecDepth 100000 in
set_option maxHeartbeats 8000000 in
theorem graphR_aux (no uo ul wo dl : Option Addr) (nc uc ulc wc dlc : Nat) (h : Hr) (w : World) (hH : HasH w ⟨no, uo, ul, wo, dl, nc, uc, ulc, wc, dlc⟩ h) (hc : chk h = (0, [])) (hm : (stds h).length ≤ 262144) :
    Calls Try.prog 41 #[hvl ⟨no, uo, ul, wo, dl, nc, uc, ulc, wc, dlc⟩ h] w fun e w' => ∃ lo lc, e = .returned (.agg #[.int .i64 (h.node.length : Int), .slice lo (normA (gArcs h (stds h))).length lc]) ∧ HasArcs w' (.slice lo (normA (gArcs h (stds h))).length lc) (normA (gArcs h (stds h))) ∧ NewA w.heap.size (.slice lo (normA (gArcs h (stds h))).length lc) ∧ Below w.heap.size w w' := by
  obtain ⟨k1, k2, k3, k4, k5, k6, k7, k8⟩ := chk_ok hc
  have hlen := stds_len k5 k6
  obtain ⟨z, hz⟩ : ∃ z, w.heap.size = z := ⟨_, rfl⟩
  obtain ⟨W0, hW0⟩ : ∃ W0, ((w.alloc (.cells #[.slice no h.node.length nc, .slice uo h.upF.length uc, .slice ul h.up.length ulc, .slice wo h.dnF.length wc, .slice dl h.dn.length dlc] 25)).alloc (.cells #[.int .i64 0, .slice none 0 0] 35)).alloc (.cells #[.int .i64 (h.node.length : Int), .slice none 0 0] 35) = W0 := ⟨_, rfl⟩
  have hB0 : Below w.heap.size w W0 := by rw [← hW0]; exact (((Below.refl _ w).alloc (Nat.le_refl _) _).alloc (by simp) _).alloc (by simp; omega) _
  have h0 : W0.heap[z]? = some (.cells #[.slice no h.node.length nc, .slice uo h.upF.length uc, .slice ul h.up.length ulc, .slice wo h.dnF.length wc, .slice dl h.dn.length dlc] 25) := by rw [← hW0, ← hz]; exact (Below.heap_alloc _ _ _ (by simp; omega)).trans ((Below.heap_alloc _ _ _ (by simp)).trans (heap_newW _ _))
  have h1 : W0.heap[z + 1]? = some (.cells #[.int .i64 0, .slice none 0 0] 35) := by
    have g := heap_newW (w.alloc (.cells #[.slice no h.node.length nc, .slice uo h.upF.length uc, .slice ul h.up.length ulc, .slice wo h.dnF.length wc, .slice dl h.dn.length dlc] 25)) (.cells #[.int .i64 0, .slice none 0 0] 35)
    rw [World.size_alloc, hz] at g
    rw [← hW0]
    exact (Below.heap_alloc _ _ _ (by rw [World.size_alloc, World.size_alloc, hz]; omega)).trans g
  have h2 : W0.heap[z + 2]? = some (.cells #[.int .i64 (h.node.length : Int), .slice none 0 0] 35) := by
    have g := heap_newW ((w.alloc (.cells #[.slice no h.node.length nc, .slice uo h.upF.length uc, .slice ul h.up.length ulc, .slice wo h.dnF.length wc, .slice dl h.dn.length dlc] 25)).alloc (.cells #[.int .i64 0, .slice none 0 0] 35)) (.cells #[.int .i64 (h.node.length : Int), .slice none 0 0] 35)
    rw [World.size_alloc, World.size_alloc, hW0, hz] at g
    exact g
  have HQ : Hid (∀ wx, Below W0.heap.size W0 wx → wx.heap[z]? = some (.cells #[.slice no h.node.length nc, .slice uo h.upF.length uc, .slice ul h.up.length ulc, .slice wo h.dnF.length wc, .slice dl h.dn.length dlc] 25) ∧ wx.heap[z + 1]? = some (.cells #[.int .i64 0, .slice none 0 0] 35) ∧ wx.heap[z + 2]? = some (.cells #[.int .i64 (h.node.length : Int), .slice none 0 0] 35) ∧ HasH wx ⟨no, uo, ul, wo, dl, nc, uc, ulc, wc, dlc⟩ h ∧ Below w.heap.size w wx) := fun wx hx => by
    have g := hB0.trans (hx.mono hB0.size)
    exact ⟨(hx.block _ (some_lt h0)).trans h0, (hx.block _ (some_lt h1)).trans h1, (hx.block _ (some_lt h2)).trans h2, hH.keep g, g⟩
  have HHB : Hid (∀ wx, Below w.heap.size w wx → HasH wx ⟨no, uo, ul, wo, dl, nc, uc, ulc, wc, dlc⟩ h) := fun wx hx => hH.keep hx
  have HS0 : Hid (z + 2 < W0.heap.size ∧ w.heap.size = z) := ⟨some_lt h2, hz⟩
  have HAR : Hid (Calls Try.prog 59 #[hvl ⟨no, uo, ul, wo, dl, nc, uc, ulc, wc, dlc⟩ h] W0 fun e w' => ∃ mo mc, e = .returned (.slice mo (stds h).length mc) ∧ HasEs w' (.slice mo (stds h).length mc) h ∧ Below W0.heap.size W0 w') := arcsR_calls _ h W0 (HQ.out W0 (Below.refl _ _)).2.2.2.1 k5 k6 (by omega) (by omega) k2
  have HLK : Hid (∀ (wx : World) (i : Nat), HasH wx ⟨no, uo, ul, wo, dl, nc, uc, ulc, wc, dlc⟩ h → i < (stds h).length → Calls Try.prog 60 #[hvl ⟨no, uo, ul, wo, dl, nc, uc, ulc, wc, dlc⟩ h, .int .i64 (i : Int)] wx fun e w' => e = .returned (lvl (linkAt h i)) ∧ Below wx.heap.size wx w') := fun wx i hx hi => link_calls _ h i wx hx (by omega) (by omega)
  have HFM : Hid (∀ i, i < (stds h).length → (sd (stds h) i).tail < h.node.length ∧ (sd (stds h) i).head < h.node.length ∧ ((sd (stds h) i).lk.plain = true → (sd (stds h) i).lk.wt ≤ 2147483647) ∧ (sd (stds h) i).lk = linkAt h i) := fun i hi => by
    have hmem : sd (stds h) i ∈ stds h := List.mem_of_getElem? (sd_get hi)
    obtain ⟨p1, p2, _, p4⟩ := form_mem k8 hmem
    exact ⟨p1, p2, p4, (stds_lk k5 k6 hi).symm⟩
  have HRO : Hid (∀ (L : List (Int × Int × Int)) (wx : World) (ao : Option Addr) (cap : Nat), HasArcs wx (.slice ao L.length cap) L → L.length ≤ 262144 → Calls Try.prog 62 #[.agg #[.int .i64 (h.node.length : Int), .slice ao L.length cap]] wx fun e w' => ∃ lo lc, e = .returned (.agg #[.int .i64 (h.node.length : Int), .slice lo (normA L).length lc]) ∧ HasArcs w' (.slice lo (normA L).length lc) (normA L) ∧ NewA wx.heap.size (.slice lo (normA L).length lc) ∧ RowKit.Below wx.heap.size wx w') := fun L wx ao cap hl hm => refOf_calls (h.node.length : Int) ao cap L wx hl hm
  have HGL : Hid (∀ k, (gArcs h ((stds h).take k)).length ≤ 262144) := fun k => by
    have := gArcs_len h ((stds h).take k)
    have e : ((stds h).take k).length ≤ (stds h).length := by rw [List.length_take]; omega
    omega
  have HLEN : Hid ((stds h).length ≤ 262144) := hm
  have HN : Hid (h.node.length ≤ 65536) := k1
  have HW0 : Hid (((w.alloc (.cells #[.slice no h.node.length nc, .slice uo h.upF.length uc, .slice ul h.up.length ulc, .slice wo h.dnF.length wc, .slice dl h.dn.length dlc] 25)).alloc (.cells #[.int .i64 0, .slice none 0 0] 35)).alloc (.cells #[.int .i64 (h.node.length : Int), .slice none 0 0] 35) = W0) := hW0
  obtain ⟨i0, hi9, hzz⟩ := Option.map_eq_some_iff.1 infoArcs
  simp only [Prod.mk.injEq] at hzz
  have HI : Hid (Try.prog.info? 49 = some i0 ∧ i0.zero = some (.agg #[.int .i64 0, .int .i64 0, .int .i64 0]) ∧ i0.size = 3 ∧ i0.bytes = 24) := ⟨hi9, hzz⟩
  have hbg := build_g (h.node.length : Int)
  have hi1 : h.node.length ≤ 65536 := k1
  clear hW0 h0 h1 h2 hB0 hH hi9 hzz hlen hm hc k1 k2 k3 k4 k5 k6 k7 k8
  have eHV : hvl ⟨no, uo, ul, wo, dl, nc, uc, ulc, wc, dlc⟩ h = .agg #[.slice no h.node.length nc, .slice uo h.upF.length uc, .slice ul h.up.length ulc, .slice wo h.dnF.length wc, .slice dl h.dn.length dlc] := rfl
  rw [eHV] at HAR HLK ⊢
  clear eHV
  go_enter Try.func41, Try.ntmps41
  go_upto_region 2 with fail
  rw [HW0.out]
  clear HW0 hz hbg
  obtain ⟨c0, c1, c2, c3, c4⟩ := five_cells (HQ.out W0 (Below.refl _ _)).1
  go_wp2_with fail
  refine HAR.out.mono ?_
  rintro e w3 ⟨mo, mc, rfl, hes, hb⟩
  have HJ0 : Hid (GJ w ⟨no, uo, ul, wo, dl, nc, uc, ulc, wc, dlc⟩ h z w3.heap.size mo mc (gArcs h ((stds h).take 0)) none 0 w3) := by
    obtain ⟨g0, g1, g2, g3, g4⟩ := HQ.out w3 hb
    exact ⟨g0, g1, g2, hes, World.ownsRow_nil _ _ _ _, g4, Nat.le_refl _⟩
  have HS3 : Hid (z + 2 < w3.heap.size) := Nat.lt_of_lt_of_le HS0.out.1 hb.size
  clear hes hb c0 c1 c2 c3 c4 HAR
  go_wp2_with fail
  go_loopw [14] (fun nv wr => ∃ (k : Nat) (so : Option Addr) (sc : Nat), k ≤ (stds h).length ∧ nv = .int .i64 k ∧ Hid (GJ w ⟨no, uo, ul, wo, dl, nc, uc, ulc, wc, dlc⟩ h z w3.heap.size mo mc (gArcs h ((stds h).take k)) so sc wr)) (fun nv _ => (stds h).length - (intOf nv).toNat)
  case atStart => exact ⟨0, none, 0, Nat.zero_le _, rfl, HJ0.out⟩
  case round =>
    obtain ⟨k, so, sc, hk, rfl, HJ⟩ := hrel
    by_cases hlt : k < (stds h).length
    · obtain ⟨b, e1, ⟨q0, q1, q2⟩, hbl⟩ := HJ.out.es.at hlt
      subst e1
      obtain ⟨p1, p2, p4, p5⟩ := HFM.out k hlt
      have HYES := fun hp => gtake_yes hlt hp
      have HNO := fun hp => gtake_no hlt hp
      have HLK1 : Hid (∀ wx, HasH wx ⟨no, uo, ul, wo, dl, nc, uc, ulc, wc, dlc⟩ h → Calls Try.prog 60 #[.agg #[.slice no h.node.length nc, .slice uo h.upF.length uc, .slice ul h.up.length ulc, .slice wo h.dnF.length wc, .slice dl h.dn.length dlc], .int .i64 (k : Int)] wx fun e w' => e = .returned (lvl (linkAt h k)) ∧ Below wx.heap.size wx w') := fun wx hx => HLK.out wx k hx hlt
      have hao : arcOf h (sd (stds h) k) = ((nth h.node (sd (stds h) k).tail : Int), (nth h.node (sd (stds h) k).head : Int), ((sd (stds h) k).lk.wt : Int)) := rfl
      rw [p5] at p4 HYES HNO hao
      obtain ⟨tl, htl⟩ : ∃ tl, (sd (stds h) k).tail = tl := ⟨_, rfl⟩
      obtain ⟨hv, hhv⟩ : ∃ hv, (sd (stds h) k).head = hv := ⟨_, rfl⟩
      obtain ⟨rk, hrk⟩ : ∃ rk, (sd (stds h) k).rk = rk := ⟨_, rfl⟩
      rw [htl] at q0 p1 hao
      rw [hhv] at q1 p2 hao
      rw [hrk] at q2
      rw [hao] at HYES
      obtain ⟨LL, hLL⟩ : ∃ l, linkAt h k = l := ⟨_, rfl⟩
      rw [hLL] at p4 HYES HNO HLK1
      obtain ⟨lh, lw, ll, lr⟩ := LL
      have HYE : Hid (type_of% HYES) := HYES
      have HNP : Hid (type_of% HNO) := HNO
      have HWT : Hid ((Lk.mk lh lw ll lr).plain = true → lw ≤ 2147483647) := p4
      have HTL : Hid (tl < h.node.length ∧ hv < h.node.length) := ⟨p1, p2⟩
      unfold lvl at HLK1
      simp only at HLK1
      have i1 : (k : Int) < ((stds h).length : Int) := by omega
      have i2 : (0 : Int) ≤ (k : Int) := by omega
      have i3 : k < 262144 := by have := HLEN.out; omega
      obtain ⟨bx, hbx⟩ : ∃ s, wr.heap.size = s := ⟨_, rfl⟩
      obtain ⟨W1, hW1⟩ : ∃ W1, wr.alloc (.cells #[.int .i64 (tl : Int), .int .i64 (hv : Int), .int .i64 (rk : Int)] 110) = W1 := ⟨_, rfl⟩
      have HW1 : Hid (wr.alloc (.cells #[.int .i64 (tl : Int), .int .i64 (hv : Int), .int .i64 (rk : Int)] 110) = W1) := hW1
      have H1 : Hid (∀ wx, Below W1.heap.size W1 wx → wx.heap[bx]? = some (.cells #[.int .i64 (tl : Int), .int .i64 (hv : Int), .int .i64 (rk : Int)] 110) ∧ GJ w ⟨no, uo, ul, wo, dl, nc, uc, ulc, wc, dlc⟩ h z w3.heap.size (some ⟨b, 0, none⟩) mc (gArcs h ((stds h).take k)) so sc wx) := fun wx hx => by
        have g1 : W1.heap[bx]? = some (.cells #[.int .i64 (tl : Int), .int .i64 (hv : Int), .int .i64 (rk : Int)] 110) := by rw [← hW1, ← hbx]; exact heap_newW _ _
        have g2 : Below wr.heap.size wr W1 := by rw [← hW1]; exact (Below.refl _ _).alloc (Nat.le_refl _) _
        exact ⟨(hx.block _ (some_lt g1)).trans g1, HJ.out.keep (btrH' g2 hx)⟩
      clear hW1 p1 p2 p4 p5 htl hhv hrk hao hLL HYES HNO
      go_upto_region 5 with fail
      rw [HW1.out]
      clear HW1 q0 q1 q2 hbx
      obtain ⟨c0, c1, c2, c3, c4⟩ := five_cells (H1.out W1 (Below.refl _ _)).2.bx
      go_wp2_with fail
      refine (HLK1.out W1 (HHB.out W1 (H1.out W1 (Below.refl _ _)).2.bl)).mono ?_
      rintro e w5 ⟨rfl, hb5⟩
      obtain ⟨by', hby⟩ : ∃ s, w5.heap.size = s := ⟨_, rfl⟩
      obtain ⟨W6, hW6⟩ : ∃ W6, w5.alloc (.cells #[.int .u32 (lh : Int), .int .u64 (lw : Int), .int .u32 (ll : Int), .int .u32 (lr : Int)] 47) = W6 := ⟨_, rfl⟩
      have HW6 : Hid (w5.alloc (.cells #[.int .u32 (lh : Int), .int .u64 (lw : Int), .int .u32 (ll : Int), .int .u32 (lr : Int)] 47) = W6) := hW6
      have H6 : Hid (∀ wx, Below W6.heap.size W6 wx → wx.heap[by']? = some (.cells #[.int .u32 (lh : Int), .int .u64 (lw : Int), .int .u32 (ll : Int), .int .u32 (lr : Int)] 47) ∧ wx.heap[bx]? = some (.cells #[.int .i64 (tl : Int), .int .i64 (hv : Int), .int .i64 (rk : Int)] 110) ∧ GJ w ⟨no, uo, ul, wo, dl, nc, uc, ulc, wc, dlc⟩ h z w3.heap.size (some ⟨b, 0, none⟩) mc (gArcs h ((stds h).take k)) so sc wx) := fun wx hx => by
        have g1 : W6.heap[by']? = some (.cells #[.int .u32 (lh : Int), .int .u64 (lw : Int), .int .u32 (ll : Int), .int .u32 (lr : Int)] 47) := by rw [← hW6, ← hby]; exact heap_newW _ _
        have g2 : Below w5.heap.size w5 W6 := by rw [← hW6]; exact (Below.refl _ _).alloc (Nat.le_refl _) _
        obtain ⟨g3, g4⟩ := H1.out wx (btrH' hb5 (btrH' g2 hx))
        exact ⟨(hx.block _ (some_lt g1)).trans g1, g3, g4⟩
      clear hW6 hb5 c0 c1 c2 c3 c4 H1 HLK1
      go_upto_region 6 with fail
      rw [HW6.out]
      clear HW6 hby
      obtain ⟨b0, b1, b2, b3⟩ := four_at (H6.out W6 (Below.refl _ _)).1
      go_wp2_with fail
      refine (tplain_calls ⟨lh, lw, ll, lr⟩ W6).mono ?_
      rintro e w7 ⟨rfl, hb7⟩
      have H7 : Hid (∀ wx, Below w7.heap.size w7 wx → wx.heap[by']? = some (.cells #[.int .u32 (lh : Int), .int .u64 (lw : Int), .int .u32 (ll : Int), .int .u32 (lr : Int)] 47) ∧ wx.heap[bx]? = some (.cells #[.int .i64 (tl : Int), .int .i64 (hv : Int), .int .i64 (rk : Int)] 110) ∧ GJ w ⟨no, uo, ul, wo, dl, nc, uc, ulc, wc, dlc⟩ h z w3.heap.size (some ⟨b, 0, none⟩) mc (gArcs h ((stds h).take k)) so sc wx) := fun wx hx => H6.out wx (btrH' hb7 hx)
      clear hb7 b0 b1 b2 b3 H6
      obtain ⟨pl, hpl⟩ : ∃ pl, (Lk.mk lh lw ll lr).plain = pl := ⟨_, rfl⟩
      rw [hpl] at HYE HNP HWT ⊢
      clear hpl
      cases pl
      · have HN : Hid (GJ w ⟨no, uo, ul, wo, dl, nc, uc, ulc, wc, dlc⟩ h z w3.heap.size (some ⟨b, 0, none⟩) mc (gArcs h ((stds h).take (k + 1))) so sc w7) := by rw [HNP.out rfl]; exact (H7.out w7 (Below.refl _ _)).2.2
        clear HNP HYE HWT H7 HJ
        go_wp2
        go_roundw
        case rel => exact ⟨k + 1, so, sc, by omega, by go_num, HN.out⟩
        case measure => simp [intOf]; omega
      · have HYY := HYE.out rfl
        have HW9 := HWT.out rfl
        have HYX : Hid (type_of% HYY) := HYY
        clear HNP HYE HWT HYY
        obtain ⟨nb, noff, e1, hnl, hcc⟩ := (HHB.out w7 (H7.out w7 (Below.refl _ _)).2.2.bl).node.cells (by have := HTL.out.1; omega)
        subst e1
        have HNC : Hid (∀ wx, Below w.heap.size w wx → wx.cell? ⟨nb, noff + tl, none⟩ = some (.int .u32 (nth h.node tl : Int)) ∧ wx.cell? ⟨nb, noff + hv, none⟩ = some (.int .u32 (nth h.node hv : Int))) := fun wx hx => by
          obtain ⟨nb', noff', e', _, hc'⟩ := (HHB.out wx hx).node.cells (by have := HTL.out.1; omega)
          cases e'
          exact ⟨hc' tl HTL.out.1, hc' hv HTL.out.2⟩
        have hs1 := (HHB.out w7 (H7.out w7 (Below.refl _ _)).2.2.bl).node.small tl
        have hs2 := (HHB.out w7 (H7.out w7 (Below.refl _ _)).2.2.bl).node.small hv
        obtain ⟨x, hx⟩ : ∃ x, nth h.node tl = x := ⟨_, rfl⟩
        obtain ⟨y, hy⟩ : ∃ y, nth h.node hv = y := ⟨_, rfl⟩
        rw [hx] at HNC HYX hs1
        rw [hy] at HNC HYX hs2
        have j1 : (0 : Int) ≤ (tl : Int) := by omega
        have j2 : (tl : Int) < (h.node.length : Int) := by have := HTL.out.1; omega
        have j3 : (0 : Int) ≤ (hv : Int) := by omega
        have j4 : (hv : Int) < (h.node.length : Int) := by have := HTL.out.2; omega
        have j5 : IntKind.i64.wrap (x : Int) = (x : Int) := by rw [IntKind.wrap_i64]; omega
        have j6 : IntKind.i64.wrap (y : Int) = (y : Int) := by rw [IntKind.wrap_i64]; omega
        have j7 : IntKind.i64.wrap (lw : Int) = (lw : Int) := by rw [IntKind.wrap_i64]; omega
        have hba := build_arcV (x : Int) (y : Int) (lw : Int)
        have hb1 := build_arc1 (x : Int) (y : Int) (lw : Int)
        clear hcc hnl hx hy hs1 hs2 HW9 HJ
        go_wp2_with fail
        have HSS : Hid (∀ wx : World, (wx.heap[by']? = some (.cells #[.int .u32 (lh : Int), .int .u64 (lw : Int), .int .u32 (ll : Int), .int .u32 (lr : Int)] 47) ∧ wx.heap[bx]? = some (.cells #[.int .i64 (tl : Int), .int .i64 (hv : Int), .int .i64 (rk : Int)] 110) ∧ GJ w ⟨some ⟨nb, noff, none⟩, uo, ul, wo, dl, nc, uc, ulc, wc, dlc⟩ h z w3.heap.size (some ⟨b, 0, none⟩) mc (gArcs h ((stds h).take k)) so sc wx) → (fun w' => w'.cell? ⟨z, 0, none⟩ = some (.slice (some ⟨nb, noff, none⟩) h.node.length nc) ∧ w'.cell? ⟨nb, noff + tl, none⟩ = some (.int .u32 (x : Int)) ∧ w'.cell? ⟨nb, noff + hv, none⟩ = some (.int .u32 (y : Int)) ∧ w'.cell? ⟨bx, 0, none⟩ = some (.int .i64 (tl : Int)) ∧ w'.cell? ⟨bx, 1, none⟩ = some (.int .i64 (hv : Int)) ∧ w'.cell? ⟨by', 1, none⟩ = some (.int .u64 (lw : Int)) ∧ Hid (w'.heap[bx]? = some (.cells #[.int .i64 (tl : Int), .int .i64 (hv : Int), .int .i64 (rk : Int)] 110) ∧ w'.heap[by']? = some (.cells #[.int .u32 (lh : Int), .int .u64 (lw : Int), .int .u32 (ll : Int), .int .u32 (lr : Int)] 47))) wx) := fun wx hx => by
          obtain ⟨a0, a1, a2, a3, a4⟩ := five_cells hx.2.2.bx
          obtain ⟨⟨e0, e1, e2⟩, _⟩ := tri_at hx.2.1
          obtain ⟨b0, b1, b2, b3⟩ := four_at hx.1
          obtain ⟨n1, n2⟩ := HNC.out wx hx.2.2.bl
          exact ⟨a0, n1, n2, e0, e1, b1, hx.2.1, hx.1⟩
        refine wp_region_M (S := (fun w' => w'.cell? ⟨z, 0, none⟩ = some (.slice (some ⟨nb, noff, none⟩) h.node.length nc) ∧ w'.cell? ⟨nb, noff + tl, none⟩ = some (.int .u32 (x : Int)) ∧ w'.cell? ⟨nb, noff + hv, none⟩ = some (.int .u32 (y : Int)) ∧ w'.cell? ⟨bx, 0, none⟩ = some (.int .i64 (tl : Int)) ∧ w'.cell? ⟨bx, 1, none⟩ = some (.int .i64 (hv : Int)) ∧ w'.cell? ⟨by', 1, none⟩ = some (.int .u64 (lw : Int)) ∧ Hid (w'.heap[bx]? = some (.cells #[.int .i64 (tl : Int), .int .i64 (hv : Int), .int .i64 (rk : Int)] 110) ∧ w'.heap[by']? = some (.cells #[.int .u32 (lh : Int), .int .u64 (lw : Int), .int .u32 (ll : Int), .int .u32 (lr : Int)] 47)))) (by kernel_rfl) (HSS.out _ (H7.out _ (Below.refl _ _).drew)) ?_
        have F1 : Hid (∀ wx, Below w7.drew.heap.size w7.drew wx → (wx.heap[by']? = some (.cells #[.int .u32 (lh : Int), .int .u64 (lw : Int), .int .u32 (ll : Int), .int .u32 (lr : Int)] 47) ∧ wx.heap[bx]? = some (.cells #[.int .i64 (tl : Int), .int .i64 (hv : Int), .int .i64 (rk : Int)] 110) ∧ GJ w ⟨some ⟨nb, noff, none⟩, uo, ul, wo, dl, nc, uc, ulc, wc, dlc⟩ h z w3.heap.size (some ⟨b, 0, none⟩) mc (gArcs h ((stds h).take k)) so sc wx)) := fun wx hx => H7.out wx (btrH' (Below.refl _ _).drew hx)
        clear H7
        refine wpAnyM_take (i := 0) (oi := { dst := Option.some 24, op := Op.fieldAddr 35 (Operand.tmp 3) 1, type := 0, pos := "ref.go:166", after := #[], guard := Option.none }) (v := ?va1z0) rfl (by kernel_rfl) (by kernel_rfl) (by kernel_rfl) (fun _ _ _ h => h) (YieldsM.of_if (Or.inl ⟨by rfl, ?ha1z0⟩)) ?ra1z0
        case ha1z0 => ((intro wz hSw; (try dsimp only at hSw); go_simp); try (with_reducible rfl))
        try simp only [Act.put, List.setIfInBounds_toArray, List.set_cons_zero, List.set_cons_succ]
        refine wpAnyM_take (i := 2) (oi := { dst := Option.some 26, op := Op.fieldAddr 25 (Operand.tmp 1) 0, type := 0, pos := "ref.go:166", after := #[], guard := Option.none }) (v := ?va2z2) rfl (by kernel_rfl) (by kernel_rfl) (by kernel_rfl) (fun _ _ _ h => h) (YieldsM.of_if (Or.inl ⟨by rfl, ?ha2z2⟩)) ?ra2z2
        case ha2z2 => ((intro wz hSw; (try dsimp only at hSw); go_simp); try (with_reducible rfl))
        try simp only [Act.put, List.setIfInBounds_toArray, List.set_cons_zero, List.set_cons_succ]
        refine wpAnyM_take (i := 3) (oi := { dst := Option.some 27, op := Op.load 22 (Operand.tmp 26), type := 22, pos := "ref.go:166", after := #[{ on := 2, ground := Ground.data }], guard := Option.none }) (v := ?va3z3) rfl (by kernel_rfl) (by kernel_rfl) (by kernel_rfl) (fun _ _ _ h => h) (YieldsM.of_if (Or.inl ⟨by rfl, ?ha3z3⟩)) ?ra3z3
        case ha3z3 => ((intro wz hSw; (try dsimp only at hSw); go_simp); try (with_reducible rfl))
        try simp only [Act.put, List.setIfInBounds_toArray, List.set_cons_zero, List.set_cons_succ]
        refine wpAnyM_take (i := 4) (oi := { dst := Option.some 28, op := Op.fieldAddr 110 (Operand.tmp 5) 0, type := 0, pos := "ref.go:166", after := #[], guard := Option.none }) (v := ?va4z4) rfl (by kernel_rfl) (by kernel_rfl) (by kernel_rfl) (fun _ _ _ h => h) (YieldsM.of_if (Or.inl ⟨by rfl, ?ha4z4⟩)) ?ra4z4
        case ha4z4 => ((intro wz hSw; (try dsimp only at hSw); go_simp); try (with_reducible rfl))
        try simp only [Act.put, List.setIfInBounds_toArray, List.set_cons_zero, List.set_cons_succ]
        refine wpAnyM_take (i := 5) (oi := { dst := Option.some 29, op := Op.load 3 (Operand.tmp 28), type := 3, pos := "ref.go:166", after := #[{ on := 4, ground := Ground.data }], guard := Option.none }) (v := ?va5z5) rfl (by kernel_rfl) (by kernel_rfl) (by kernel_rfl) (fun _ _ _ h => h) (YieldsM.of_if (Or.inl ⟨by rfl, ?ha5z5⟩)) ?ra5z5
        case ha5z5 => ((intro wz hSw; (try dsimp only at hSw); go_simp); try (with_reducible rfl))
        try simp only [Act.put, List.setIfInBounds_toArray, List.set_cons_zero, List.set_cons_succ]
        refine wpAnyM_take (i := 6) (oi := { dst := Option.some 30, op := Op.indexAddr 22 (Operand.tmp 27) (Operand.tmp 29), type := 0, pos := "ref.go:166", after := #[{ on := 3, ground := Ground.data }, { on := 5, ground := Ground.data }], guard := Option.none }) (v := ?va6z6) rfl (by kernel_rfl) (by kernel_rfl) (by kernel_rfl) (fun _ _ _ h => h) (YieldsM.of_if (Or.inl ⟨by rfl, ?ha6z6⟩)) ?ra6z6
        case ha6z6 => ((intro wz hSw; (try dsimp only at hSw); go_simp); try (with_reducible rfl))
        try simp only [Act.put, List.setIfInBounds_toArray, List.set_cons_zero, List.set_cons_succ]
        refine wpAnyM_take (i := 7) (oi := { dst := Option.some 31, op := Op.load 43 (Operand.tmp 30), type := 43, pos := "ref.go:166", after := #[{ on := 6, ground := Ground.data }], guard := Option.none }) (v := ?va7z7) rfl (by kernel_rfl) (by kernel_rfl) (by kernel_rfl) (fun _ _ _ h => h) (YieldsM.of_if (Or.inl ⟨by rfl, ?ha7z7⟩)) ?ra7z7
        case ha7z7 => ((intro wz hSw; (try dsimp only at hSw); go_simp); try (with_reducible rfl))
        try simp only [Act.put, List.setIfInBounds_toArray, List.set_cons_zero, List.set_cons_succ]
        refine wpAnyM_take (i := 8) (oi := { dst := Option.some 32, op := Op.convert 43 3 (Operand.tmp 31), type := 3, pos := "ref.go:166", after := #[{ on := 7, ground := Ground.data }], guard := Option.none }) (v := ?va8z8) rfl (by kernel_rfl) (by kernel_rfl) (by kernel_rfl) (fun _ _ _ h => h) (YieldsM.of_if (Or.inl ⟨by rfl, ?ha8z8⟩)) ?ra8z8
        case ha8z8 => ((intro wz hSw; (try dsimp only at hSw); go_simp); try (with_reducible rfl))
        try simp only [Act.put, List.setIfInBounds_toArray, List.set_cons_zero, List.set_cons_succ]
        refine wpAnyM_take (i := 9) (oi := { dst := Option.some 33, op := Op.fieldAddr 25 (Operand.tmp 1) 0, type := 0, pos := "ref.go:166", after := #[], guard := Option.none }) (v := ?va9z9) rfl (by kernel_rfl) (by kernel_rfl) (by kernel_rfl) (fun _ _ _ h => h) (YieldsM.of_if (Or.inl ⟨by rfl, ?ha9z9⟩)) ?ra9z9
        case ha9z9 => ((intro wz hSw; (try dsimp only at hSw); go_simp); try (with_reducible rfl))
        try simp only [Act.put, List.setIfInBounds_toArray, List.set_cons_zero, List.set_cons_succ]
        refine wpAnyM_take (i := 10) (oi := { dst := Option.some 34, op := Op.load 22 (Operand.tmp 33), type := 22, pos := "ref.go:166", after := #[{ on := 9, ground := Ground.data }], guard := Option.none }) (v := ?va10z10) rfl (by kernel_rfl) (by kernel_rfl) (by kernel_rfl) (fun _ _ _ h => h) (YieldsM.of_if (Or.inl ⟨by rfl, ?ha10z10⟩)) ?ra10z10
        case ha10z10 => ((intro wz hSw; (try dsimp only at hSw); go_simp); try (with_reducible rfl))
        try simp only [Act.put, List.setIfInBounds_toArray, List.set_cons_zero, List.set_cons_succ]
        refine wpAnyM_take (i := 11) (oi := { dst := Option.some 35, op := Op.fieldAddr 110 (Operand.tmp 5) 1, type := 0, pos := "ref.go:166", after := #[], guard := Option.none }) (v := ?va11z11) rfl (by kernel_rfl) (by kernel_rfl) (by kernel_rfl) (fun _ _ _ h => h) (YieldsM.of_if (Or.inl ⟨by rfl, ?ha11z11⟩)) ?ra11z11
        case ha11z11 => ((intro wz hSw; (try dsimp only at hSw); go_simp); try (with_reducible rfl))
        try simp only [Act.put, List.setIfInBounds_toArray, List.set_cons_zero, List.set_cons_succ]
        refine wpAnyM_take (i := 12) (oi := { dst := Option.some 36, op := Op.load 3 (Operand.tmp 35), type := 3, pos := "ref.go:166", after := #[{ on := 11, ground := Ground.data }], guard := Option.none }) (v := ?va12z12) rfl (by kernel_rfl) (by kernel_rfl) (by kernel_rfl) (fun _ _ _ h => h) (YieldsM.of_if (Or.inl ⟨by rfl, ?ha12z12⟩)) ?ra12z12
        case ha12z12 => ((intro wz hSw; (try dsimp only at hSw); go_simp); try (with_reducible rfl))
        try simp only [Act.put, List.setIfInBounds_toArray, List.set_cons_zero, List.set_cons_succ]
        refine wpAnyM_take (i := 13) (oi := { dst := Option.some 37, op := Op.indexAddr 22 (Operand.tmp 34) (Operand.tmp 36), type := 0, pos := "ref.go:166", after := #[{ on := 10, ground := Ground.data }, { on := 12, ground := Ground.data }], guard := Option.none }) (v := ?va13z13) rfl (by kernel_rfl) (by kernel_rfl) (by kernel_rfl) (fun _ _ _ h => h) (YieldsM.of_if (Or.inl ⟨by rfl, ?ha13z13⟩)) ?ra13z13
        case ha13z13 => ((intro wz hSw; (try dsimp only at hSw); go_simp); try (with_reducible rfl))
        try simp only [Act.put, List.setIfInBounds_toArray, List.set_cons_zero, List.set_cons_succ]
        refine wpAnyM_take (i := 14) (oi := { dst := Option.some 38, op := Op.load 43 (Operand.tmp 37), type := 43, pos := "ref.go:166", after := #[{ on := 13, ground := Ground.data }], guard := Option.none }) (v := ?va14z14) rfl (by kernel_rfl) (by kernel_rfl) (by kernel_rfl) (fun _ _ _ h => h) (YieldsM.of_if (Or.inl ⟨by rfl, ?ha14z14⟩)) ?ra14z14
        case ha14z14 => ((intro wz hSw; (try dsimp only at hSw); go_simp); try (with_reducible rfl))
        try simp only [Act.put, List.setIfInBounds_toArray, List.set_cons_zero, List.set_cons_succ]
        refine wpAnyM_take (i := 15) (oi := { dst := Option.some 39, op := Op.convert 43 3 (Operand.tmp 38), type := 3, pos := "ref.go:166", after := #[{ on := 14, ground := Ground.data }], guard := Option.none }) (v := ?va15z15) rfl (by kernel_rfl) (by kernel_rfl) (by kernel_rfl) (fun _ _ _ h => h) (YieldsM.of_if (Or.inl ⟨by rfl, ?ha15z15⟩)) ?ra15z15
        case ha15z15 => ((intro wz hSw; (try dsimp only at hSw); go_simp); try (with_reducible rfl))
        try simp only [Act.put, List.setIfInBounds_toArray, List.set_cons_zero, List.set_cons_succ]
        refine wpAnyM_take (i := 16) (oi := { dst := Option.some 40, op := Op.fieldAddr 47 (Operand.tmp 6) 1, type := 0, pos := "ref.go:166", after := #[], guard := Option.none }) (v := ?va16z16) rfl (by kernel_rfl) (by kernel_rfl) (by kernel_rfl) (fun _ _ _ h => h) (YieldsM.of_if (Or.inl ⟨by rfl, ?ha16z16⟩)) ?ra16z16
        case ha16z16 => ((intro wz hSw; (try dsimp only at hSw); go_simp); try (with_reducible rfl))
        try simp only [Act.put, List.setIfInBounds_toArray, List.set_cons_zero, List.set_cons_succ]
        refine wpAnyM_take (i := 17) (oi := { dst := Option.some 41, op := Op.load 45 (Operand.tmp 40), type := 45, pos := "ref.go:166", after := #[{ on := 16, ground := Ground.data }], guard := Option.none }) (v := ?va17z17) rfl (by kernel_rfl) (by kernel_rfl) (by kernel_rfl) (fun _ _ _ h => h) (YieldsM.of_if (Or.inl ⟨by rfl, ?ha17z17⟩)) ?ra17z17
        case ha17z17 => ((intro wz hSw; (try dsimp only at hSw); go_simp); try (with_reducible rfl))
        try simp only [Act.put, List.setIfInBounds_toArray, List.set_cons_zero, List.set_cons_succ]
        refine wpAnyM_take (i := 18) (oi := { dst := Option.some 42, op := Op.convert 45 3 (Operand.tmp 41), type := 3, pos := "ref.go:166", after := #[{ on := 17, ground := Ground.data }], guard := Option.none }) (v := ?va18z18) rfl (by kernel_rfl) (by kernel_rfl) (by kernel_rfl) (fun _ _ _ h => h) (YieldsM.of_if (Or.inl ⟨by rfl, ?ha18z18⟩)) ?ra18z18
        case ha18z18 => ((intro wz hSw; (try dsimp only at hSw); go_simp); try (with_reducible rfl))
        try simp only [Act.put, List.setIfInBounds_toArray, List.set_cons_zero, List.set_cons_succ]
        refine wpAnyM_take (i := 19) (oi := { dst := Option.some 43, op := Op.build 49 #[(0, Operand.tmp 32), (1, Operand.tmp 39), (2, Operand.tmp 42)], type := 49, pos := "ref.go:166", after := #[{ on := 8, ground := Ground.data }, { on := 15, ground := Ground.data }, { on := 18, ground := Ground.data }], guard := Option.none }) (v := ?va19z19) rfl (by kernel_rfl) (by kernel_rfl) (by kernel_rfl) (fun _ _ _ h => h) (YieldsM.of_if (Or.inl ⟨by rfl, ?ha19z19⟩)) ?ra19z19
        case ha19z19 => ((intro wz hSw; (try dsimp only at hSw); go_simp); try (with_reducible rfl))
        try simp only [Act.put, List.setIfInBounds_toArray, List.set_cons_zero, List.set_cons_succ]
        refine ready2M (i := 1) (j := 20) (oi := { dst := Option.some 25, op := Op.load 33 (Operand.tmp 24), type := 33, pos := "ref.go:166", after := #[{ on := 0, ground := Ground.data }], guard := Option.none }) (oj := { dst := Option.some 44, op := Op.buildSlice 33 1 #[(0, Operand.tmp 43)], type := 33, pos := "ref.go:166", after := #[{ on := 19, ground := Ground.data }], guard := Option.none }) rfl rfl (by kernel_rfl) ?_ ?_
        · intro u1 hg1 hS1 K hK
          have hf := F1.out u1 hg1
          have F1b : Hid (∀ wx, Below u1.heap.size u1 wx → (wx.heap[by']? = some (.cells #[.int .u32 (lh : Int), .int .u64 (lw : Int), .int .u32 (ll : Int), .int .u32 (lr : Int)] 47) ∧ wx.heap[bx]? = some (.cells #[.int .i64 (tl : Int), .int .i64 (hv : Int), .int .i64 (rk : Int)] 110) ∧ GJ w ⟨some ⟨nb, noff, none⟩, uo, ul, wo, dl, nc, uc, ulc, wc, dlc⟩ h z w3.heap.size (some ⟨b, 0, none⟩) mc (gArcs h ((stds h).take k)) so sc wx)) := fun wx hx => F1.out wx (btrH' hg1 hx)
          obtain ⟨e0, e1, _, _⟩ := cell_two hf.2.2.gx
          clear hS1
          go_simp
          refine hK.out _ _ (HSS.out _ hf) ?_
          clear hK K e0 e1 hf hg1
          try simp only [Act.put, List.setIfInBounds_toArray, List.set_cons_zero, List.set_cons_succ]
          refine readyM (i := 20) (o := { dst := Option.some 44, op := Op.buildSlice 33 1 #[(0, Operand.tmp 43)], type := 33, pos := "ref.go:166", after := #[{ on := 19, ground := Ground.data }], guard := Option.none }) rfl (by kernel_rfl) ?_
          intro u2 hg2 hS2 K hK
          have hf := F1b.out u2 hg2
          have F2 : Hid (∀ wx, Below (u2.alloc (.cells #[.int .i64 (x : Int), .int .i64 (y : Int), .int .i64 (lw : Int)] 49)).heap.size (u2.alloc (.cells #[.int .i64 (x : Int), .int .i64 (y : Int), .int .i64 (lw : Int)] 49)) wx → (wx.heap[by']? = some (.cells #[.int .u32 (lh : Int), .int .u64 (lw : Int), .int .u32 (ll : Int), .int .u32 (lr : Int)] 47) ∧ wx.heap[bx]? = some (.cells #[.int .i64 (tl : Int), .int .i64 (hv : Int), .int .i64 (rk : Int)] 110) ∧ GJ w ⟨some ⟨nb, noff, none⟩, uo, ul, wo, dl, nc, uc, ulc, wc, dlc⟩ h z w3.heap.size (some ⟨b, 0, none⟩) mc (gArcs h ((stds h).take k)) so sc wx) ∧ wx.heap[u2.heap.size]? = some (.cells #[.int .i64 (x : Int), .int .i64 (y : Int), .int .i64 (lw : Int)] 49)) := fun wx hx => by
            have g1 := heap_newW u2 (.cells #[.int .i64 (x : Int), .int .i64 (y : Int), .int .i64 (lw : Int)] 49)
            have g2 : Below u2.heap.size u2 (u2.alloc (.cells #[.int .i64 (x : Int), .int .i64 (y : Int), .int .i64 (lw : Int)] 49)) := (Below.refl _ _).alloc (Nat.le_refl _) _
            exact ⟨F1b.out wx (btrH' hg2 (btrH' g2 hx)), (hx.block _ (some_lt g1)).trans g1⟩
          clear hS2
          go_simp
          refine hK.out _ _ (HSS.out _ (F2.out _ (Below.refl _ _)).1) ?_
          clear hK K
          obtain ⟨g, hgg⟩ : ∃ g, u2.heap.size = g := ⟨_, rfl⟩
          rw [hgg] at F2 ⊢
          generalize u2.alloc (.cells #[.int .i64 (x : Int), .int .i64 (y : Int), .int .i64 (lw : Int)] 49) = U2 at F2 ⊢
          clear hgg hf hg2
          try simp only [Act.put, List.setIfInBounds_toArray, List.set_cons_zero, List.set_cons_succ]
          obtain ⟨A, hA⟩ : ∃ A, gArcs h ((stds h).take k) = A := ⟨_, rfl⟩
          have HAL : A.length ≤ 262144 := by have := HGL.out k; rw [hA] at this; exact this
          rw [hA] at HYX F2 HSS ⊢
          clear hA
          refine readyM (i := 21) (o := { dst := Option.some 45, op := Op.call { callee := Callee.builtin Builtin.append, args := #[Operand.tmp 25, Operand.tmp 44], argTypes := #[33, 33] }, type := 33, pos := "ref.go:166", after := #[{ on := 1, ground := Ground.data }, { on := 20, ground := Ground.data }], guard := Option.none }) rfl (by kernel_rfl) ?_
          intro u3 hg3 hS3 K hK
          rw [if_pos (by rfl)]
          have hf := F2.out u3 hg3
          refine wp_append_own u3 _ _ 33 rfl w3.heap.size 49 i0 (.agg #[.int .i64 0, .int .i64 0, .int .i64 0]) 3 24 Try.underlying33 HI.out.1 HI.out.2.1 HI.out.2.2.1 HI.out.2.2.2 rfl (by decide) (.slice so A.length sc) A.length (flatA A) rfl hf.1.2.2.ow ⟨g, 0, none⟩ 1 1 (encA ((x : Int), (y : Int), (lw : Int))) rfl rfl (cells_three hf.2) (arc_one _) (by unfold maxLen; omega) (by omega) hf.1.2.2.sz ?_
          intro v5 w5 hown5 hgr5 _
          obtain ⟨po, pc, hv5⟩ := own_slice hown5
          subst hv5
          have HG5 := GJ.step HS3.out (by have := HS0.out.2; omega) hf.1.2.2 hown5 hgr5
          have H5 : Hid (w5.heap[z + 2]? = some (.cells #[.int .i64 (h.node.length : Int), .slice so A.length sc] 35) ∧ GJ w ⟨some ⟨nb, noff, none⟩, uo, ul, wo, dl, nc, uc, ulc, wc, dlc⟩ h z w3.heap.size (some ⟨b, 0, none⟩) mc (A ++ [((x : Int), (y : Int), (lw : Int))]) po pc (w5.setCell ⟨z + 2, 1, none⟩ (.slice po (A.length + 1) pc))) := ⟨HG5.1, HG5.2.1⟩
          have HB5 : Hid (w5.heap[by']? = some (.cells #[.int .u32 (lh : Int), .int .u64 (lw : Int), .int .u32 (ll : Int), .int .u32 (lr : Int)] 47) ∧ w5.heap[bx]? = some (.cells #[.int .i64 (tl : Int), .int .i64 (hv : Int), .int .i64 (rk : Int)] 110) ∧ w5.heap[z]? = some (.cells (cellsH ⟨some ⟨nb, noff, none⟩, uo, ul, wo, dl, nc, uc, ulc, wc, dlc⟩ h) 25) ∧ Below w.heap.size w w5) := ⟨HG5.2.2 _ _ hf.1.1 (fun c e => by cases e), HG5.2.2 _ _ hf.1.2.1 (fun c e => by cases e), HG5.2.2 _ _ hf.1.2.2.bx (fun c e => by cases e), below_grown hf.1.2.2.bl (own_lowO hf.1.2.2.ow (by have := HS0.out.2; have := HS3.out; omega)) hgr5 hf.1.2.2.bl.size⟩
          clear hown5 hgr5 hf hg3 hS3 F2 HG5
          have HS5 : Hid (∀ wx : World, (wx.heap[by']? = some (.cells #[.int .u32 (lh : Int), .int .u64 (lw : Int), .int .u32 (ll : Int), .int .u32 (lr : Int)] 47) ∧ wx.heap[bx]? = some (.cells #[.int .i64 (tl : Int), .int .i64 (hv : Int), .int .i64 (rk : Int)] 110) ∧ wx.heap[z]? = some (.cells (cellsH ⟨some ⟨nb, noff, none⟩, uo, ul, wo, dl, nc, uc, ulc, wc, dlc⟩ h) 25) ∧ Below w.heap.size w wx) → (fun w' => w'.cell? ⟨z, 0, none⟩ = some (.slice (some ⟨nb, noff, none⟩) h.node.length nc) ∧ w'.cell? ⟨nb, noff + tl, none⟩ = some (.int .u32 (x : Int)) ∧ w'.cell? ⟨nb, noff + hv, none⟩ = some (.int .u32 (y : Int)) ∧ w'.cell? ⟨bx, 0, none⟩ = some (.int .i64 (tl : Int)) ∧ w'.cell? ⟨bx, 1, none⟩ = some (.int .i64 (hv : Int)) ∧ w'.cell? ⟨by', 1, none⟩ = some (.int .u64 (lw : Int)) ∧ Hid (w'.heap[bx]? = some (.cells #[.int .i64 (tl : Int), .int .i64 (hv : Int), .int .i64 (rk : Int)] 110) ∧ w'.heap[by']? = some (.cells #[.int .u32 (lh : Int), .int .u64 (lw : Int), .int .u32 (ll : Int), .int .u32 (lr : Int)] 47))) wx) := fun wx hx => by
            obtain ⟨a0, a1, a2, a3, a4⟩ := five_cells hx.2.2.1
            obtain ⟨⟨e0, e1, e2⟩, _⟩ := tri_at hx.2.1
            obtain ⟨b0, b1, b2, b3⟩ := four_at hx.1
            obtain ⟨n1, n2⟩ := HNC.out wx hx.2.2.2
            exact ⟨a0, n1, n2, e0, e1, b1, hx.2.1, hx.1⟩
          refine hK.out _ _ (HS5.out _ HB5.out) ?_
          clear hK K
          try simp only [Act.put, List.setIfInBounds_toArray, List.set_cons_zero, List.set_cons_succ]
          refine wpAnyM_take (i := 22) (oi := { dst := Option.some 46, op := Op.fieldAddr 35 (Operand.tmp 3) 1, type := 0, pos := "ref.go:166", after := #[{ on := 0, ground := Ground.phase }, { on := 1, ground := Ground.phase }, { on := 2, ground := Ground.phase }, { on := 3, ground := Ground.phase }, { on := 4, ground := Ground.phase }, { on := 5, ground := Ground.phase }, { on := 6, ground := Ground.phase }, { on := 7, ground := Ground.phase }, { on := 8, ground := Ground.phase }, { on := 9, ground := Ground.phase }, { on := 10, ground := Ground.phase }, { on := 11, ground := Ground.phase }, { on := 12, ground := Ground.phase }, { on := 13, ground := Ground.phase }, { on := 14, ground := Ground.phase }, { on := 15, ground := Ground.phase }, { on := 16, ground := Ground.phase }, { on := 17, ground := Ground.phase }, { on := 18, ground := Ground.phase }, { on := 19, ground := Ground.phase }, { on := 20, ground := Ground.phase }, { on := 21, ground := Ground.phase }], guard := Option.none }) (v := ?vb20z22) rfl (by kernel_rfl) (by kernel_rfl) (by kernel_rfl) (fun _ _ _ h => h) (YieldsM.of_if (Or.inl ⟨by rfl, ?hb20z22⟩)) ?rb20z22
          case hb20z22 => ((intro wz hSw; (try dsimp only at hSw); go_simp); try (with_reducible rfl))
          try simp only [Act.put, List.setIfInBounds_toArray, List.set_cons_zero, List.set_cons_succ]
          refine readyM (i := 23) (o := { dst := Option.none, op := Op.store 33 (Operand.tmp 46) (Operand.tmp 45), type := 0, pos := "ref.go:166", after := #[{ on := 22, ground := Ground.data }, { on := 21, ground := Ground.data }, { on := 21, ground := Ground.chain }, { on := 0, ground := Ground.phase }, { on := 1, ground := Ground.phase }, { on := 2, ground := Ground.phase }, { on := 3, ground := Ground.phase }, { on := 4, ground := Ground.phase }, { on := 5, ground := Ground.phase }, { on := 6, ground := Ground.phase }, { on := 7, ground := Ground.phase }, { on := 8, ground := Ground.phase }, { on := 9, ground := Ground.phase }, { on := 10, ground := Ground.phase }, { on := 11, ground := Ground.phase }, { on := 12, ground := Ground.phase }, { on := 13, ground := Ground.phase }, { on := 14, ground := Ground.phase }, { on := 15, ground := Ground.phase }, { on := 16, ground := Ground.phase }, { on := 17, ground := Ground.phase }, { on := 18, ground := Ground.phase }, { on := 19, ground := Ground.phase }, { on := 20, ground := Ground.phase }, { on := 21, ground := Ground.phase }], guard := Option.none }) rfl (by kernel_rfl) ?_
          intro u8 hg8 hS8 K hK
          have H8 : Hid (u8.heap[z + 2]? = some (.cells #[.int .i64 (h.node.length : Int), .slice so A.length sc] 35) ∧ GJ w ⟨some ⟨nb, noff, none⟩, uo, ul, wo, dl, nc, uc, ulc, wc, dlc⟩ h z w3.heap.size (some ⟨b, 0, none⟩) mc (A ++ [((x : Int), (y : Int), (lw : Int))]) po pc (u8.setCell ⟨z + 2, 1, none⟩ (.slice po (A.length + 1) pc)) ∧ (fun w' => w'.cell? ⟨z, 0, none⟩ = some (.slice (some ⟨nb, noff, none⟩) h.node.length nc) ∧ w'.cell? ⟨nb, noff + tl, none⟩ = some (.int .u32 (x : Int)) ∧ w'.cell? ⟨nb, noff + hv, none⟩ = some (.int .u32 (y : Int)) ∧ w'.cell? ⟨bx, 0, none⟩ = some (.int .i64 (tl : Int)) ∧ w'.cell? ⟨bx, 1, none⟩ = some (.int .i64 (hv : Int)) ∧ w'.cell? ⟨by', 1, none⟩ = some (.int .u64 (lw : Int)) ∧ Hid (w'.heap[bx]? = some (.cells #[.int .i64 (tl : Int), .int .i64 (hv : Int), .int .i64 (rk : Int)] 110) ∧ w'.heap[by']? = some (.cells #[.int .u32 (lh : Int), .int .u64 (lw : Int), .int .u32 (ll : Int), .int .u32 (lr : Int)] 47))) (u8.setCell ⟨z + 2, 1, none⟩ (.slice po (A.length + 1) pc))) := by
            have e1 := (Below.block hg8 _ (some_lt H5.out.1)).trans H5.out.1
            have e2 := H5.out.2.keep (gj_up hg8 H5.out.1)
            refine ⟨e1, e2, HS5.out _ ⟨?_, ?_, e2.bx, e2.bl⟩⟩
            · exact (Below.heap_setCell _ _ _ _ (by show by' ≠ z + 2; intro e; have := HB5.out.1; rw [e, H5.out.1] at this; cases this)).trans ((Below.block hg8 _ (some_lt HB5.out.1)).trans HB5.out.1)
            · exact (Below.heap_setCell _ _ _ _ (by show bx ≠ z + 2; intro e; have := HB5.out.2.1; rw [e, H5.out.1] at this; cases this)).trans ((Below.block hg8 _ (some_lt HB5.out.2.1)).trans HB5.out.2.1)
          obtain ⟨d0, d1, f0, f1⟩ := cell_two H8.out.1
          clear hS8 hg8 H5 HB5
          go_simp
          refine hK.out _ _ H8.out.2.2 ?_
          clear hK K d0 d1 f0 f1
          try simp only [Act.put, List.setIfInBounds_toArray, List.set_cons_zero, List.set_cons_succ]
          have H9 : Hid (GJ w ⟨some ⟨nb, noff, none⟩, uo, ul, wo, dl, nc, uc, ulc, wc, dlc⟩ h z w3.heap.size (some ⟨b, 0, none⟩) mc (A ++ [((x : Int), (y : Int), (lw : Int))]) po pc (u8.setCell ⟨z + 2, 1, none⟩ (.slice po (A.length + 1) pc))) := H8.out.2.1
          generalize u8.setCell ⟨z + 2, 1, none⟩ (.slice po (A.length + 1) pc) = U9 at H9 ⊢
          clear H8
          refine wpAnyM_done (by kernel_rfl) ?_ _
          intro u9 hg9 hS9
          have HF : Hid (GJ w ⟨some ⟨nb, noff, none⟩, uo, ul, wo, dl, nc, uc, ulc, wc, dlc⟩ h z w3.heap.size (some ⟨b, 0, none⟩) mc (gArcs h ((stds h).take (k + 1))) po pc u9) := by rw [HYX.out]; exact H9.out.keep hg9
          clear hS9 hg9 H9
          go_wp2
          go_roundw
          case rel => exact ⟨k + 1, po, pc, by omega, by go_num, HF.out⟩
          case measure => simp [intOf]; omega
        · intro u1 hg1 hS1 K hK
          have hf := F1.out u1 hg1
          have F1a : Hid (∀ wx, Below (u1.alloc (.cells #[.int .i64 (x : Int), .int .i64 (y : Int), .int .i64 (lw : Int)] 49)).heap.size (u1.alloc (.cells #[.int .i64 (x : Int), .int .i64 (y : Int), .int .i64 (lw : Int)] 49)) wx → (wx.heap[by']? = some (.cells #[.int .u32 (lh : Int), .int .u64 (lw : Int), .int .u32 (ll : Int), .int .u32 (lr : Int)] 47) ∧ wx.heap[bx]? = some (.cells #[.int .i64 (tl : Int), .int .i64 (hv : Int), .int .i64 (rk : Int)] 110) ∧ GJ w ⟨some ⟨nb, noff, none⟩, uo, ul, wo, dl, nc, uc, ulc, wc, dlc⟩ h z w3.heap.size (some ⟨b, 0, none⟩) mc (gArcs h ((stds h).take k)) so sc wx) ∧ wx.heap[u1.heap.size]? = some (.cells #[.int .i64 (x : Int), .int .i64 (y : Int), .int .i64 (lw : Int)] 49)) := fun wx hx => by
            have g1 := heap_newW u1 (.cells #[.int .i64 (x : Int), .int .i64 (y : Int), .int .i64 (lw : Int)] 49)
            have g2 : Below u1.heap.size u1 (u1.alloc (.cells #[.int .i64 (x : Int), .int .i64 (y : Int), .int .i64 (lw : Int)] 49)) := (Below.refl _ _).alloc (Nat.le_refl _) _
            exact ⟨F1.out wx (btrH' hg1 (btrH' g2 hx)), (hx.block _ (some_lt g1)).trans g1⟩
          clear hS1
          go_simp
          refine hK.out _ _ (HSS.out _ (F1a.out _ (Below.refl _ _)).1) ?_
          clear hK K
          obtain ⟨g, hgg⟩ : ∃ g, u1.heap.size = g := ⟨_, rfl⟩
          rw [hgg] at F1a ⊢
          generalize u1.alloc (.cells #[.int .i64 (x : Int), .int .i64 (y : Int), .int .i64 (lw : Int)] 49) = U2 at F1a ⊢
          clear hgg hf hg1
          try simp only [Act.put, List.setIfInBounds_toArray, List.set_cons_zero, List.set_cons_succ]
          refine readyM (i := 1) (o := { dst := Option.some 25, op := Op.load 33 (Operand.tmp 24), type := 33, pos := "ref.go:166", after := #[{ on := 0, ground := Ground.data }], guard := Option.none }) rfl (by kernel_rfl) ?_
          intro u2 hg2 hS2 K hK
          have hf := F1a.out u2 hg2
          have F2 : Hid (∀ wx, Below u2.heap.size u2 wx → (wx.heap[by']? = some (.cells #[.int .u32 (lh : Int), .int .u64 (lw : Int), .int .u32 (ll : Int), .int .u32 (lr : Int)] 47) ∧ wx.heap[bx]? = some (.cells #[.int .i64 (tl : Int), .int .i64 (hv : Int), .int .i64 (rk : Int)] 110) ∧ GJ w ⟨some ⟨nb, noff, none⟩, uo, ul, wo, dl, nc, uc, ulc, wc, dlc⟩ h z w3.heap.size (some ⟨b, 0, none⟩) mc (gArcs h ((stds h).take k)) so sc wx) ∧ wx.heap[g]? = some (.cells #[.int .i64 (x : Int), .int .i64 (y : Int), .int .i64 (lw : Int)] 49)) := fun wx hx => F1a.out wx (btrH' hg2 hx)
          obtain ⟨e0, e1, _, _⟩ := cell_two hf.1.2.2.gx
          clear hS2
          go_simp
          refine hK.out _ _ (HSS.out _ hf.1) ?_
          clear hK K e0 e1 hf hg2
          try simp only [Act.put, List.setIfInBounds_toArray, List.set_cons_zero, List.set_cons_succ]
          obtain ⟨A, hA⟩ : ∃ A, gArcs h ((stds h).take k) = A := ⟨_, rfl⟩
          have HAL : A.length ≤ 262144 := by have := HGL.out k; rw [hA] at this; exact this
          rw [hA] at HYX F2 HSS ⊢
          clear hA
          refine readyM (i := 21) (o := { dst := Option.some 45, op := Op.call { callee := Callee.builtin Builtin.append, args := #[Operand.tmp 25, Operand.tmp 44], argTypes := #[33, 33] }, type := 33, pos := "ref.go:166", after := #[{ on := 1, ground := Ground.data }, { on := 20, ground := Ground.data }], guard := Option.none }) rfl (by kernel_rfl) ?_
          intro u3 hg3 hS3 K hK
          rw [if_pos (by rfl)]
          have hf := F2.out u3 hg3
          refine wp_append_own u3 _ _ 33 rfl w3.heap.size 49 i0 (.agg #[.int .i64 0, .int .i64 0, .int .i64 0]) 3 24 Try.underlying33 HI.out.1 HI.out.2.1 HI.out.2.2.1 HI.out.2.2.2 rfl (by decide) (.slice so A.length sc) A.length (flatA A) rfl hf.1.2.2.ow ⟨g, 0, none⟩ 1 1 (encA ((x : Int), (y : Int), (lw : Int))) rfl rfl (cells_three hf.2) (arc_one _) (by unfold maxLen; omega) (by omega) hf.1.2.2.sz ?_
          intro v5 w5 hown5 hgr5 _
          obtain ⟨po, pc, hv5⟩ := own_slice hown5
          subst hv5
          have HG5 := GJ.step HS3.out (by have := HS0.out.2; omega) hf.1.2.2 hown5 hgr5
          have H5 : Hid (w5.heap[z + 2]? = some (.cells #[.int .i64 (h.node.length : Int), .slice so A.length sc] 35) ∧ GJ w ⟨some ⟨nb, noff, none⟩, uo, ul, wo, dl, nc, uc, ulc, wc, dlc⟩ h z w3.heap.size (some ⟨b, 0, none⟩) mc (A ++ [((x : Int), (y : Int), (lw : Int))]) po pc (w5.setCell ⟨z + 2, 1, none⟩ (.slice po (A.length + 1) pc))) := ⟨HG5.1, HG5.2.1⟩
          have HB5 : Hid (w5.heap[by']? = some (.cells #[.int .u32 (lh : Int), .int .u64 (lw : Int), .int .u32 (ll : Int), .int .u32 (lr : Int)] 47) ∧ w5.heap[bx]? = some (.cells #[.int .i64 (tl : Int), .int .i64 (hv : Int), .int .i64 (rk : Int)] 110) ∧ w5.heap[z]? = some (.cells (cellsH ⟨some ⟨nb, noff, none⟩, uo, ul, wo, dl, nc, uc, ulc, wc, dlc⟩ h) 25) ∧ Below w.heap.size w w5) := ⟨HG5.2.2 _ _ hf.1.1 (fun c e => by cases e), HG5.2.2 _ _ hf.1.2.1 (fun c e => by cases e), HG5.2.2 _ _ hf.1.2.2.bx (fun c e => by cases e), below_grown hf.1.2.2.bl (own_lowO hf.1.2.2.ow (by have := HS0.out.2; have := HS3.out; omega)) hgr5 hf.1.2.2.bl.size⟩
          clear hown5 hgr5 hf hg3 hS3 F2 HG5
          have HS5 : Hid (∀ wx : World, (wx.heap[by']? = some (.cells #[.int .u32 (lh : Int), .int .u64 (lw : Int), .int .u32 (ll : Int), .int .u32 (lr : Int)] 47) ∧ wx.heap[bx]? = some (.cells #[.int .i64 (tl : Int), .int .i64 (hv : Int), .int .i64 (rk : Int)] 110) ∧ wx.heap[z]? = some (.cells (cellsH ⟨some ⟨nb, noff, none⟩, uo, ul, wo, dl, nc, uc, ulc, wc, dlc⟩ h) 25) ∧ Below w.heap.size w wx) → (fun w' => w'.cell? ⟨z, 0, none⟩ = some (.slice (some ⟨nb, noff, none⟩) h.node.length nc) ∧ w'.cell? ⟨nb, noff + tl, none⟩ = some (.int .u32 (x : Int)) ∧ w'.cell? ⟨nb, noff + hv, none⟩ = some (.int .u32 (y : Int)) ∧ w'.cell? ⟨bx, 0, none⟩ = some (.int .i64 (tl : Int)) ∧ w'.cell? ⟨bx, 1, none⟩ = some (.int .i64 (hv : Int)) ∧ w'.cell? ⟨by', 1, none⟩ = some (.int .u64 (lw : Int)) ∧ Hid (w'.heap[bx]? = some (.cells #[.int .i64 (tl : Int), .int .i64 (hv : Int), .int .i64 (rk : Int)] 110) ∧ w'.heap[by']? = some (.cells #[.int .u32 (lh : Int), .int .u64 (lw : Int), .int .u32 (ll : Int), .int .u32 (lr : Int)] 47))) wx) := fun wx hx => by
            obtain ⟨a0, a1, a2, a3, a4⟩ := five_cells hx.2.2.1
            obtain ⟨⟨e0, e1, e2⟩, _⟩ := tri_at hx.2.1
            obtain ⟨b0, b1, b2, b3⟩ := four_at hx.1
            obtain ⟨n1, n2⟩ := HNC.out wx hx.2.2.2
            exact ⟨a0, n1, n2, e0, e1, b1, hx.2.1, hx.1⟩
          refine hK.out _ _ (HS5.out _ HB5.out) ?_
          clear hK K
          try simp only [Act.put, List.setIfInBounds_toArray, List.set_cons_zero, List.set_cons_succ]
          refine wpAnyM_take (i := 22) (oi := { dst := Option.some 46, op := Op.fieldAddr 35 (Operand.tmp 3) 1, type := 0, pos := "ref.go:166", after := #[{ on := 0, ground := Ground.phase }, { on := 1, ground := Ground.phase }, { on := 2, ground := Ground.phase }, { on := 3, ground := Ground.phase }, { on := 4, ground := Ground.phase }, { on := 5, ground := Ground.phase }, { on := 6, ground := Ground.phase }, { on := 7, ground := Ground.phase }, { on := 8, ground := Ground.phase }, { on := 9, ground := Ground.phase }, { on := 10, ground := Ground.phase }, { on := 11, ground := Ground.phase }, { on := 12, ground := Ground.phase }, { on := 13, ground := Ground.phase }, { on := 14, ground := Ground.phase }, { on := 15, ground := Ground.phase }, { on := 16, ground := Ground.phase }, { on := 17, ground := Ground.phase }, { on := 18, ground := Ground.phase }, { on := 19, ground := Ground.phase }, { on := 20, ground := Ground.phase }, { on := 21, ground := Ground.phase }], guard := Option.none }) (v := ?vc21z22) rfl (by kernel_rfl) (by kernel_rfl) (by kernel_rfl) (fun _ _ _ h => h) (YieldsM.of_if (Or.inl ⟨by rfl, ?hc21z22⟩)) ?rc21z22
          case hc21z22 => ((intro wz hSw; (try dsimp only at hSw); go_simp); try (with_reducible rfl))
          try simp only [Act.put, List.setIfInBounds_toArray, List.set_cons_zero, List.set_cons_succ]
          refine readyM (i := 23) (o := { dst := Option.none, op := Op.store 33 (Operand.tmp 46) (Operand.tmp 45), type := 0, pos := "ref.go:166", after := #[{ on := 22, ground := Ground.data }, { on := 21, ground := Ground.data }, { on := 21, ground := Ground.chain }, { on := 0, ground := Ground.phase }, { on := 1, ground := Ground.phase }, { on := 2, ground := Ground.phase }, { on := 3, ground := Ground.phase }, { on := 4, ground := Ground.phase }, { on := 5, ground := Ground.phase }, { on := 6, ground := Ground.phase }, { on := 7, ground := Ground.phase }, { on := 8, ground := Ground.phase }, { on := 9, ground := Ground.phase }, { on := 10, ground := Ground.phase }, { on := 11, ground := Ground.phase }, { on := 12, ground := Ground.phase }, { on := 13, ground := Ground.phase }, { on := 14, ground := Ground.phase }, { on := 15, ground := Ground.phase }, { on := 16, ground := Ground.phase }, { on := 17, ground := Ground.phase }, { on := 18, ground := Ground.phase }, { on := 19, ground := Ground.phase }, { on := 20, ground := Ground.phase }, { on := 21, ground := Ground.phase }], guard := Option.none }) rfl (by kernel_rfl) ?_
          intro u8 hg8 hS8 K hK
          have H8 : Hid (u8.heap[z + 2]? = some (.cells #[.int .i64 (h.node.length : Int), .slice so A.length sc] 35) ∧ GJ w ⟨some ⟨nb, noff, none⟩, uo, ul, wo, dl, nc, uc, ulc, wc, dlc⟩ h z w3.heap.size (some ⟨b, 0, none⟩) mc (A ++ [((x : Int), (y : Int), (lw : Int))]) po pc (u8.setCell ⟨z + 2, 1, none⟩ (.slice po (A.length + 1) pc)) ∧ (fun w' => w'.cell? ⟨z, 0, none⟩ = some (.slice (some ⟨nb, noff, none⟩) h.node.length nc) ∧ w'.cell? ⟨nb, noff + tl, none⟩ = some (.int .u32 (x : Int)) ∧ w'.cell? ⟨nb, noff + hv, none⟩ = some (.int .u32 (y : Int)) ∧ w'.cell? ⟨bx, 0, none⟩ = some (.int .i64 (tl : Int)) ∧ w'.cell? ⟨bx, 1, none⟩ = some (.int .i64 (hv : Int)) ∧ w'.cell? ⟨by', 1, none⟩ = some (.int .u64 (lw : Int)) ∧ Hid (w'.heap[bx]? = some (.cells #[.int .i64 (tl : Int), .int .i64 (hv : Int), .int .i64 (rk : Int)] 110) ∧ w'.heap[by']? = some (.cells #[.int .u32 (lh : Int), .int .u64 (lw : Int), .int .u32 (ll : Int), .int .u32 (lr : Int)] 47))) (u8.setCell ⟨z + 2, 1, none⟩ (.slice po (A.length + 1) pc))) := by
            have e1 := (Below.block hg8 _ (some_lt H5.out.1)).trans H5.out.1
            have e2 := H5.out.2.keep (gj_up hg8 H5.out.1)
            refine ⟨e1, e2, HS5.out _ ⟨?_, ?_, e2.bx, e2.bl⟩⟩
            · exact (Below.heap_setCell _ _ _ _ (by show by' ≠ z + 2; intro e; have := HB5.out.1; rw [e, H5.out.1] at this; cases this)).trans ((Below.block hg8 _ (some_lt HB5.out.1)).trans HB5.out.1)
            · exact (Below.heap_setCell _ _ _ _ (by show bx ≠ z + 2; intro e; have := HB5.out.2.1; rw [e, H5.out.1] at this; cases this)).trans ((Below.block hg8 _ (some_lt HB5.out.2.1)).trans HB5.out.2.1)
          obtain ⟨d0, d1, f0, f1⟩ := cell_two H8.out.1
          clear hS8 hg8 H5 HB5
          go_simp
          refine hK.out _ _ H8.out.2.2 ?_
          clear hK K d0 d1 f0 f1
          try simp only [Act.put, List.setIfInBounds_toArray, List.set_cons_zero, List.set_cons_succ]
          have H9 : Hid (GJ w ⟨some ⟨nb, noff, none⟩, uo, ul, wo, dl, nc, uc, ulc, wc, dlc⟩ h z w3.heap.size (some ⟨b, 0, none⟩) mc (A ++ [((x : Int), (y : Int), (lw : Int))]) po pc (u8.setCell ⟨z + 2, 1, none⟩ (.slice po (A.length + 1) pc))) := H8.out.2.1
          generalize u8.setCell ⟨z + 2, 1, none⟩ (.slice po (A.length + 1) pc) = U9 at H9 ⊢
          clear H8
          refine wpAnyM_done (by kernel_rfl) ?_ _
          intro u9 hg9 hS9
          have HF : Hid (GJ w ⟨some ⟨nb, noff, none⟩, uo, ul, wo, dl, nc, uc, ulc, wc, dlc⟩ h z w3.heap.size (some ⟨b, 0, none⟩) mc (gArcs h ((stds h).take (k + 1))) po pc u9) := by rw [HYX.out]; exact H9.out.keep hg9
          clear hS9 hg9 H9
          go_wp2
          go_roundw
          case rel => exact ⟨k + 1, po, pc, by omega, by go_num, HF.out⟩
          case measure => simp [intOf]; omega
    · obtain rfl : k = (stds h).length := by omega
      have HK2 : Hid (GJ w ⟨no, uo, ul, wo, dl, nc, uc, ulc, wc, dlc⟩ h z w3.heap.size mo mc (gArcs h (stds h)) so sc wr) := by have g := HJ.out; rw [List.take_length] at g; exact g
      obtain ⟨L, hL⟩ : ∃ L, gArcs h (stds h) = L := ⟨_, rfl⟩
      have HLL : Hid (gArcs h (stds h) = L) := hL
      have HL9 : L.length ≤ 262144 := by have := HGL.out (stds h).length; rw [List.take_length, hL] at this; exact this
      rw [hL] at HK2
      have HCL : Hid (type_of% (HRO.out L wr so sc (arcs_own rfl HK2.out.ow) HL9)) := HRO.out L wr so sc (arcs_own rfl HK2.out.ow) HL9
      obtain ⟨g0, g1, _, _⟩ := cell_two HK2.out.gx
      clear HJ hL HL9 hk hlt
      go_wp2_with fail
      refine HCL.out.mono ?_
      rintro e w9 ⟨lo, lc, rfl, har, hnew, hb9⟩
      obtain ⟨NL, hNL⟩ : ∃ NL, normA L = NL := ⟨_, rfl⟩
      rw [hNL] at har hnew ⊢
      have HNL : Hid (normA L = NL) := hNL
      have HZ9 : Hid (w9.heap[z + 1]? = some (.cells #[.int .i64 0, .slice none 0 0] 35)) := (hb9.block _ (some_lt HK2.out.ax)).trans HK2.out.ax
      have HB9 : Hid (Below w.heap.size w w9) := HK2.out.bl.trans (hb9.mono HK2.out.bl.size)
      obtain ⟨d0, d1, f0, f1⟩ := cell_two HZ9.out
      have H9 : Hid (((w9.setCell ⟨z + 1, 0, none⟩ (.int .i64 (h.node.length : Int))).setCell ⟨z + 1, 1, none⟩ (.slice lo NL.length lc)).heap[z + 1]? = some (.cells #[.int .i64 (h.node.length : Int), .slice lo NL.length lc] 35) ∧ HasArcs ((w9.setCell ⟨z + 1, 0, none⟩ (.int .i64 (h.node.length : Int))).setCell ⟨z + 1, 1, none⟩ (.slice lo NL.length lc)) (.slice lo NL.length lc) NL ∧ NewA w.heap.size (.slice lo NL.length lc) ∧ Below w.heap.size w ((w9.setCell ⟨z + 1, 0, none⟩ (.int .i64 (h.node.length : Int))).setCell ⟨z + 1, 1, none⟩ (.slice lo NL.length lc))) := by
        have hz9 := HS0.out.2
        exact ⟨set_two HZ9.out _ _, arcs_set2 har HZ9.out _ _, fun b' off n c e => Nat.le_trans HK2.out.bl.size (hnew b' off n c e), (HB9.out.setCell (p := ⟨z + 1, 0, none⟩) (by show w.heap.size ≤ z + 1; omega) _).setCell (p := ⟨z + 1, 1, none⟩) (by show w.heap.size ≤ z + 1; omega) _⟩
      clear har hnew hb9 hNL HCL
      go_wp2
      exact bodyPost_ret (graphR_res H9.out.1 rfl) rfl ⟨lo, lc, by rw [HLL.out, HNL.out], by rw [HLL.out, HNL.out]; exact H9.out.2.1, by rw [HLL.out, HNL.out]; exact H9.out.2.2.1, H9.out.2.2.2⟩
theorem graphR_calls (v : HV) (h : Hr) (w : World) (hH : HasH w v h) (hc : chk h = (0, [])) (hm : (stds h).length ≤ 262144) :
    Calls Try.prog 41 #[hvl v h] w fun e w' => ∃ lo lc, e = .returned (.agg #[.int .i64 (h.node.length : Int), .slice lo (normA (gArcs h (stds h))).length lc]) ∧ HasArcs w' (.slice lo (normA (gArcs h (stds h))).length lc) (normA (gArcs h (stds h))) ∧ NewA w.heap.size (.slice lo (normA (gArcs h (stds h))).length lc) ∧ Below w.heap.size w w' :=
  graphR_aux v.no v.uo v.ul v.wo v.dl v.nc v.uc v.ulc v.wc v.dlc h w hH hc hm
end Go.Proofs.Ytkehpmbnbknpfaa.Hi
