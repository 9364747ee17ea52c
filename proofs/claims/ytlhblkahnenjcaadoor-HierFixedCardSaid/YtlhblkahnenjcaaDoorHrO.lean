/- hier.Graph. -/
import Derived.Test.YtlhblkahnenjcaaDoorHrP
import Derived.Test.YtlhblkahnenjcaaDoorHrK
import Derived.Test.YtlhblkahnenjcaaDoorNoX
namespace Go.Proofs.YtlhblkahnenjcaaDoor.Hi
open Go.RowKit Go.Extern Go.Sort Go.Shelf

attribute [local go_sem] Oper.semAt_some

theorem not_TnI_arc {c : Array Value} : ¬ TnI (.cells c 60) := by
  rintro (h | ⟨c', t, z, h, hh⟩)
  · simp [Obj.isCells] at h
  · injection h with h1 h2 h3
    subst h2
    rcases hh with h | h | h | h <;> revert h <;> decide
/-- while the plain links are gathered. -/
structure GRI (w : World) (v : HV) (h : Hr) (z y : Nat) (pre : List (Nat × Sd)) (Wc : World) : Prop where
  row : ∃ u, Boxed Wc y 53 u ∧ Wc.ownsRow y 60 3 u (gArcs h (pre.map Prod.snd)).length (flatA (gArcs h (pre.map Prod.snd)))
  gx : Wc.heap[z + 1]? = some (.cells #[.int .i64 0, .slice none 0 0] 55)
  bx : Wc.heap[z]? = some (.cells (cellsH v h) 31)
  bh : Wc.heap[y + 1]? = some (.cells (cellsH v h) 31)
  bl : Below z w Wc
  sz : y + 1 + 1 ≤ Wc.heap.size
theorem GRI.turn {w : World} {v : HV} {h : Hr} {z y : Nat} {pre : List (Nat × Sd)} {A C : World} (hzy : z + 1 < y) (hi : GRI w v h z y pre A) (ht : Turn TnI (y + 1 + 1) A C) : GRI w v h z y pre C := by
  obtain ⟨⟨u, h1, h2⟩, h3, h4, h5, h6, h7⟩ := hi
  exact ⟨⟨u, (ht.below.block _ (by omega)).trans h1, own_keep h2 fun k cur _ hc => ht.same _ _ hc not_TnI_arc⟩, (ht.below.block _ (by omega)).trans h3, (ht.below.block _ (by omega)).trans h4, (ht.below.block _ (by omega)).trans h5, h6.trans (ht.below.mono (by omega)), Nat.le_trans h7 ht.below.size⟩
theorem GRI.below {w : World} {v : HV} {h : Hr} {z y : Nat} {pre : List (Nat × Sd)} {A C : World} (hzy : z + 1 < y) (hi : GRI w v h z y pre A) (hb : Below A.heap.size A C) : GRI w v h z y pre C := by
  have := hi.sz
  exact hi.turn hzy ⟨hb.mono this, fun k o hk _ => (hb.block _ (some_lt hk)).trans hk⟩
theorem gri_step {w : World} {v : HV} {h : Hr} {z y : Nat} {pre : List (Nat × Sd)} {x : Nat × Sd} {Wc w1 : World} {u u' : Value} {tmp : Obj} (hzy : z + 1 < y) (hpl : x.2.lk.plain = true) (hi : GRI w v h z y pre Wc) (hv : Boxed Wc y 53 u) (hr : Wc.ownsRow y 60 3 u (gArcs h (pre.map Prod.snd)).length (flatA (gArcs h (pre.map Prod.snd))))
    (hown' : w1.ownsRow y 60 3 u' ((gArcs h (pre.map Prod.snd)).length + 1) (flatA (gArcs h (pre.map Prod.snd)) ++ encA (arcOf h x.2))) (hgrow : (Wc.alloc tmp).grownBy w1 u.ownBlock) :
    Boxed w1 y 53 u ∧ GRI w v h z y (pre ++ [x]) (w1.setCell ⟨y, 0, none⟩ u') ∧ KeepsT TnI (y + 1 + 1) Wc (w1.setCell ⟨y, 0, none⟩ u') := by
  have hs := hi.sz
  obtain ⟨hv1, hv2, hr2, hk2, hb2⟩ := hv.appended (by decide) hr (by omega) (Nat.le_refl _) hown' hgrow
  have hblk : ∀ k, u.ownBlock = some k → ∃ cur, Wc.heap[k]? = some (.cells cur 60) := fun k hk => by
    rcases hr.2 with ⟨rfl, _⟩ | ⟨g, cap, cur, rfl, _, hh, _⟩
    · cases hk
    · cases hk; exact ⟨cur, hh⟩
  have hother : ∀ (k : Nat) (o : Obj), Wc.heap[k]? = some o → (∀ c, o ≠ .cells c 60) → w1.heap[k]? = some o := fun k o hk hn => by
    have e1 : (Wc.alloc tmp).heap[k]? = some o := (Below.heap_alloc _ _ _ (some_lt hk)).trans hk
    refine (hgrow.block k (some_lt e1) (fun e => ?_)).trans e1
    obtain ⟨cur, hc⟩ := hblk k e.symm
    rw [hk] at hc
    cases hc
    exact hn cur rfl
  have e : gArcs h ((pre ++ [x]).map Prod.snd) = gArcs h (pre.map Prod.snd) ++ [arcOf h x.2] := by
    rw [List.map_append, List.map_singleton, gArcs_snoc, if_pos hpl]
  refine ⟨hv1, ⟨⟨u', hv2, ?_⟩, ?_, ?_, ?_, ?_, ?_⟩, ?_⟩
  · rw [e, List.length_append, flatA_append]
    have : flatA [arcOf h x.2] = encA (arcOf h x.2) := by simp [flatA]
    rw [this]
    exact hr2
  · exact (Below.heap_setCell _ _ _ _ (by show z + 1 ≠ y; omega)).trans (hother _ _ hi.gx (fun c e => by cases e))
  · exact (Below.heap_setCell _ _ _ _ (by show z ≠ y; omega)).trans (hother _ _ hi.bx (fun c e => by cases e))
  · exact (Below.heap_setCell _ _ _ _ (by show y + 1 ≠ y; omega)).trans (hother _ _ hi.bh (fun c e => by cases e))
  · exact hi.bl.trans (hb2.mono (by omega))
  · have := hgrow.size
    simp at this
    simp [World.setCell]
    omega
  · refine (((KeepsT.refl _ _ _).alloc tmp).grown hgrow (fun k hk => Or.inr ?_)).setCell (p := ⟨y, 0, none⟩) (Or.inl (by show y < _; omega)) _
    obtain ⟨cur, hc⟩ := hblk k hk
    exact ⟨_, (Below.heap_alloc _ _ _ (some_lt hc)).trans hc, not_TnI_arc⟩
theorem gri_skip {w : World} {v : HV} {h : Hr} {z y : Nat} {pre : List (Nat × Sd)} {x : Nat × Sd} {Wc : World} (hpl : x.2.lk.plain = false) (hi : GRI w v h z y pre Wc) : GRI w v h z y (pre ++ [x]) Wc := by
  have e : gArcs h ((pre ++ [x]).map Prod.snd) = gArcs h (pre.map Prod.snd) := by
    rw [List.map_append, List.map_singleton, gArcs_snoc, if_neg (by rw [hpl]; simp), List.append_nil]
  obtain ⟨⟨u, h1, h2⟩, h3, h4, h5, h6, h7⟩ := hi
  exact ⟨⟨u, h1, by rw [e]; exact h2⟩, h3, h4, h5, h6, h7⟩

theorem arc_new (W : World) (a : Int × Int × Int) : ∀ j u, (encA a)[j]? = some u → (W.alloc (.cells #[.int .i64 a.1, .int .i64 a.2.1, .int .i64 a.2.2] 60)).cell? ((⟨W.heap.size, 0, none⟩ : Addr).add j) = some u := fun j u hj => by
  have hh := heap_newW W (.cells #[.int .i64 a.1, .int .i64 a.2.1, .int .i64 a.2.2] 60)
  generalize W.alloc (.cells #[.int .i64 a.1, .int .i64 a.2.1, .int .i64 a.2.2] 60) = W' at hh
  have e : (⟨W.heap.size, 0, none⟩ : Addr).add j = ⟨W.heap.size, j, none⟩ := by
    by_cases h0 : j = 0
    · subst h0; rfl
    · simp [Addr.add, h0]
  rw [e]
  have g : (#[Value.int .i64 a.1, .int .i64 a.2.1, .int .i64 a.2.2] : Array Value)[j]? = some u := by rw [← Array.getElem?_toList]; exact hj
  simp [World.cell?, hh, g]
theorem arc_one (a : Int × Int × Int) : ∀ u ∈ encA a, u.oneCell' = true := by
  intro u hu
  simp [encA] at hu
  rcases hu with rfl | rfl | rfl <;> rfl

theorem arcs_far {w w' : World} {lo : Option Addr} {k c : Nat} {L : List (Int × Int × Int)} (h : HasArcs w (.slice lo k c) L) (hs : w.heap.size ≤ w'.heap.size) (hb : ∀ a, lo = some a → w'.heap[a.block]? = w.heap[a.block]?) : HasArcs w' (.slice lo k c) L := by
  obtain ⟨ao, cap, e, hc⟩ := h
  refine ⟨ao, cap, e, fun j a hj => ?_⟩
  obtain ⟨b, off, ea, hl, h0, h1, h2⟩ := hc j a hj
  injection e with e1 e2 e3
  have hh := hb _ (e1.trans ea)
  have key : ∀ o, w'.cell? ⟨b, o, none⟩ = w.cell? ⟨b, o, none⟩ := fun o => World.cell?_of_block (w := w) (w' := w') (a := ⟨b, o, none⟩) hh
  exact ⟨b, off, ea, Nat.lt_of_lt_of_le hl hs, (key _).trans h0, (key _).trans h1, (key _).trans h2⟩
theorem arcs_holds {w : World} {b cap : Nat} {d : Array (Int × Int × Int)} (h : HoldsK encA 3 w b 0 d) (hb : b < w.heap.size) : HasArcs w (.slice (some ⟨b, 0, none⟩) d.size cap) d.toList := by
  refine ⟨some ⟨b, 0, none⟩, cap, by simp, fun j a hj => ?_⟩
  have hlt : j < d.size := by have := (List.getElem?_eq_some_iff.1 hj).1; simpa using this
  obtain ⟨⟨c0, c1, c2⟩, _⟩ := holds_at h j hlt
  have e : d[j]! = a := by
    have := (List.getElem?_eq_some_iff.1 hj).2
    simp [hlt]
    simpa using this
  rw [e] at c0 c1 c2
  exact ⟨b, 0, rfl, hb, c0, c1, c2⟩
theorem sortE_nil : sortE [] = [] := List.eq_nil_of_length_eq_zero (by rw [sortE_len]; rfl)
/-- a row of one's own, sorted. -/
theorem sort_own {w : World} {B : Nat} {u : Value} {L : List (Int × Int × Int)} (h : w.ownsRow B 60 3 u L.length (flatA L)) (hl : L.length ≤ 1048576) :
    ∃ lo c, u = .slice lo L.length c ∧ (∀ a, lo = some a → B ≤ a.block ∧ ∃ cur, w.heap[a.block]? = some (.cells cur 60)) ∧ Calls Tryd.prog 34 #[u, .func (.func 35) #[] #[]] w fun e w' => e = .returned (.tuple #[]) ∧ HasArcs w' u (sortE L) ∧ w.heap.size ≤ w'.heap.size ∧ w'.os = w.os ∧ w'.tape = w.tape ∧ w'.output = w.output ∧ ∀ k, k < w.heap.size → (∀ a, lo = some a → a.block ≠ k) → w'.heap[k]? = w.heap[k]? := by
  rcases h.2 with ⟨rfl, h0⟩ | ⟨g, cap, cur, rfl, hb, hh, hcap, _⟩
  · have : L = [] := List.eq_nil_of_length_eq_zero h0
    subst this
    refine ⟨none, 0, rfl, fun a e => (by cases e), (sort_nil w).mono ?_⟩
    rintro e w' ⟨rfl, hb⟩
    exact ⟨rfl, by rw [sortE_nil]; exact ⟨none, 0, rfl, fun j a hj => by simp at hj⟩, hb.size, hb.os, hb.tape, hb.output, fun k hk _ => hb.block _ hk⟩
  · refine ⟨_, cap, rfl, fun a e => by cases e; exact ⟨hb, cur, hh⟩, ?_⟩
    have hH := holds_of_row rfl h
    have := sortG_calls g cap L.toArray w hH (some_lt hh) (by simp; omega)
    simp only [List.size_toArray] at this
    refine this.mono ?_
    rintro e w' ⟨rfl, hH', ht⟩
    refine ⟨rfl, ?_, ht.size, ht.os, ht.tape, ht.output, fun k hk hn => ht.block _ hk (fun e => hn _ rfl e.symm)⟩
    have ha := arcs_holds (cap := cap) hH' (Nat.lt_of_lt_of_le (some_lt hh) ht.size)
    have hsz : (pdq (ltOf endsI) L.toArray 0 L.length (Lib.bitLen L.length) true true).size = L.length := by
      have := sortE_len L
      unfold sortE at this
      simpa using this
    rw [hsz] at ha
    unfold sortE
    simpa using ha
theorem set_two {W : World} {b : Nat} {p q : Value} {T : TypeId} (h : W.heap[b]? = some (.cells #[p, q] T)) (x y : Value) : ((W.setCell ⟨b, 0, none⟩ x).setCell ⟨b, 1, none⟩ y).heap[b]? = some (.cells #[x, y] T) := by
  have hlt := some_lt h
  simp only [World.setCell, Array.getElem?_modify]
  simp [h]
theorem graph_res {W : World} {z : Nat} {N : Int} {lv : Value} {tmps : Array Value} (h1 : W.heap[z + 1]? = some (.cells #[.int .i64 N, lv] 55)) (t2 : tmps[2]?.getD undef = .pointer (some ⟨z + 1, 0, none⟩)) :
    (results Tryd.f16 tmps).run Tryd.prog W = .ok (.tuple #[.agg #[.int .i64 N, lv], tmps[3]?.getD undef]) W := by
  have c1 : W.cell? ⟨z + 1, 0, none⟩ = some (.int .i64 N) := by simp [World.cell?, h1]
  have c2 : W.cell? ⟨z + 1, 1, none⟩ = some lv := by simp [World.cell?, h1]
  simp [results, Tryd.results16, go_sem, t2, c1, c2]

set_option maxRecDepth 100000 in
set_option maxHeartbeats 8000000 in
theorem graph_calls (v : HV) (h : Hr) (w : World) (hH : HasH w v h) (hb1 : h.up.length ≤ 1152921504606846976) (hb2 : h.dn.length ≤ 1152921504606846976) (hb3 : h.node.length ≤ 1152921504606846976) :
    Calls Tryd.prog 16 #[hvl v h] w fun e w' => ∃ N lo k c u L, e = .returned (.tuple #[.agg #[.int .i64 N, .slice lo k c], u]) ∧ Below w.heap.size w w' ∧ HasArcs w' (.slice lo k c) L ∧
      ((chk h = (0, []) ∧ N = (h.node.length : Int) ∧ L = sortE (gArcs h (stds h)) ∧ u = .nilIface) ∨ (chk h ≠ (0, []) ∧ N = 0 ∧ L = [] ∧ IsTold w' (chk h) u)) := by
  refine (callsIn_wide (n := 5)).1 (callsIn_of_wp_marks Tryd.func16 rfl trivial (wpIn_wide.2 (wp_quiet ?_)) rfl)
  obtain ⟨z, hz⟩ : ∃ z, w.heap.size = z := ⟨_, rfl⟩
  have HZ : Hid (w.heap.size = z) := hz
  have HH : Hid (HasH w v h) := hH
  obtain ⟨W0, hW0⟩ : ∃ W0, (w.alloc (.cells (cellsH v h) 31)).alloc (.cells #[.int .i64 0, .slice none 0 0] 55) = W0 := ⟨_, rfl⟩
  have hE0 : W0.heap[z]? = some (.cells (cellsH v h) 31) ∧ W0.heap[z + 1]? = some (.cells #[.int .i64 0, .slice none 0 0] 55) ∧ Below z w W0 := by
    rw [← hW0, ← hz]
    refine ⟨(Below.heap_alloc _ _ _ (by simp)).trans (heap_newW _ _), ?_, ((Below.refl _ _).alloc (Nat.le_refl _) _).alloc (by simp) _⟩
    have g := heap_newW (w.alloc (.cells (cellsH v h) 31)) (.cells #[.int .i64 0, .slice none 0 0] 55)
    rw [World.size_alloc] at g
    exact g
  have hs0 : W0.heap.size = z + 1 + 1 := by rw [← hW0]; simp [hz]
  have HW0 : Hid ((w.alloc (.cells (cellsH v h) 31)).alloc (.cells #[.int .i64 0, .slice none 0 0] 55) = W0) := hW0
  have HE0 : Hid (W0.heap[z]? = some (.cells (cellsH v h) 31) ∧ W0.heap[z + 1]? = some (.cells #[.int .i64 0, .slice none 0 0] 55) ∧ Below z w W0) := hE0
  have HCK : Hid (Calls Tryd.prog 9 #[hvl v h] W0 fun e w' => ∃ u, e = .returned u ∧ IsTold w' (chk h) u ∧ Below W0.heap.size W0 w') := check_calls v h W0 (hH.keep (by rw [hz]; exact hE0.2.2)) hb1 hb2 hb3
  obtain ⟨c0, c1, c2, c3, c4⟩ := five_cells hE0.1
  clear hW0 hE0 hH
  unfold hvl at HCK ⊢
  unfold cellsH at HW0
  simp only [List.size_toArray, List.length_cons, List.length_nil, Tryd.ntmps16, Nat.reduceAdd, Nat.reduceSub, Array.replicate_succ, Array.replicate_zero, List.push_toArray, List.append_toArray, List.nil_append, List.cons_append]
  go_upto_region 1 with fail
  rw [HW0.out]
  by_cases hck : chk h = (0, [])
  · obtain ⟨k1, k2, k3, k4, k5, k6, k7, k8⟩ := chk_ok hck
    have HK : Hid (h.node.length ≤ 65536 ∧ h.up.length + h.dn.length ≤ 1048576 ∧ h.upF.length = h.node.length + 1 ∧ h.dnF.length = h.node.length + 1 ∧ FOk h.upF h.up.length ∧ FOk h.dnF h.dn.length) := ⟨k1, k2, k3, k4, k5, k6⟩
    have HCL : Hid (cl h.node.length (stds h) = (0, [])) := k8
    have HC : Hid (chk h = (0, [])) := hck
    rw [hck] at HCK
    clear hck k1 k2 k3 k4 k5 k6 k7 k8
    go_wp2_with (first | (go_at_call 9; refine HCK.out.mono ?_; rintro e w1 ⟨u, rfl, htu, hbu⟩; have hu0 := isTold_nil htu; subst hu0; have HE1 : Hid ((w1.heap[z]? = some (.cells (cellsH v h) 31) ∧ w1.heap[z + 1]? = some (.cells #[.int .i64 0, .slice none 0 0] 55) ∧ Below z w w1) ∧ z + 1 < w1.heap.size) := ⟨⟨(hbu.block _ (by omega)).trans HE0.out.1, (hbu.block _ (by omega)).trans HE0.out.2.1, HE0.out.2.2.trans (hbu.mono (by omega))⟩, by have := hbu.size; omega⟩; obtain ⟨k0, k1, k2, k3, k4⟩ := five_cells HE1.out.1.1; have hz1 : z < w1.heap.size := (by have := HE1.out.2; omega); clear htu hbu) | (go_at_call 22; refine (links_calls v h _).mono ?_; rintro e w' ⟨rfl, rfl⟩))
    obtain ⟨y, hy⟩ : ∃ y, w1.heap.size = y := ⟨_, rfl⟩
    have hyz : z + 1 < y := by have := HE1.out.2; omega
    have hI0 : GRI w v h z y [] ((w1.alloc (.cells #[.slice none 0 0] 53)).alloc (.cells (cellsH v h) 31)) := by
      have hb : Below w1.heap.size w1 ((w1.alloc (.cells #[.slice none 0 0] 53)).alloc (.cells (cellsH v h) 31)) := ((Below.refl _ _).alloc (Nat.le_refl _) _).alloc (by simp) _
      refine ⟨⟨.slice none 0 0, ?_, World.ownsRow_nil _ _ _ _⟩, (hb.block _ (by omega)).trans HE1.out.1.2.1, (hb.block _ (by omega)).trans HE1.out.1.1, ?_, HE1.out.1.2.2.trans (hb.mono (by omega)), by simp; omega⟩
      · have g := (Boxed.new w1 53 (.slice none 0 0)).alloc (.cells (cellsH v h) 31)
        rw [hy] at g
        exact g
      · have g := heap_newW (w1.alloc (.cells #[.slice none 0 0] 53)) (.cells (cellsH v h) 31)
        rw [World.size_alloc, hy] at g
        exact g
    have hs1 : ((w1.alloc (.cells #[.slice none 0 0] 53)).alloc (.cells (cellsH v h) 31)).heap.size = y + 1 + 1 := by simp [hy]
    generalize (w1.alloc (.cells #[.slice none 0 0] 53)).alloc (.cells (cellsH v h) 31) = W2 at *
    rw [hy]
    clear hy c0 c1 c2 c3 c4 k0 k1 k2 k3 k4
    have HSO : Hid (∀ s ∈ stds h, s.ok) := stds_ok HK.out.2.2.2.2.1 HK.out.2.2.2.2.2 (by have := HK.out.2.2.1; have := HK.out.1; omega) (by have := HK.out.2.2.2.1; have := HK.out.1; omega) HH.out.up.ok HH.out.dn.ok
    have HSL : Hid ((stds h).length ≤ 1048576) := by show _ ≤ _; rw [stds_len HK.out.2.2.2.2.1 HK.out.2.2.2.2.2]; exact HK.out.2.1
    have HI : AbT TnI W2.heap.size (fun (p : List (Nat × Sd)) Wc => GRI w v h z y p Wc) := by
      rw [hs1]; exact fun s A C hs ht => hs.turn hyz ht
    obtain ⟨i0, hi9, hzz⟩ := Option.map_eq_some_iff.1 Tryd.info51
    simp only [Prod.mk.injEq] at hzz
    obtain ⟨hz0, hz1', hz2⟩ := hzz
    refine (wpIn_wide (n := 5)).1 ?_
    refine wp_over (xs := numd 0 (stds h)) rfl (fun h => (by cases h)) (gf := 42) (lb := #[.pointer (some ⟨y + 1, 0, none⟩)]) rfl trivial (enters_of Tryd.func42 (by kernel_rfl) rfl)
      (links1_seq _ (y + 1) v h HK.out.2.2.2.2.1 HK.out.2.2.2.2.2 (by have := HK.out.2.2.1; have := HK.out.1; omega) (by have := HK.out.2.2.2.1; have := HK.out.1; omega) (by have := HK.out.2.1; omega) (by have := HK.out.2.1; omega) (y + 1 + 1) (by omega)) (by rw [hs1]; exact Nat.le_refl _) (fun _ => Or.inl rfl) (fun _ => Or.inl rfl) (fun _ => rfl) _ (fun _ _ => False) HI (fun _ _ _ h _ => h) (fun pre Wc hi => ⟨hi.bh, HH.out.keep (by rw [HZ.out]; exact hi.bl)⟩) hI0
      (fun x a' Wc => ∃ Bx, Wc.heap[Bx]? = some (.cells (sixC x.2) 70) ∧ a' = { tmps := #[.agg #[.slice v.no h.node.length v.nc, .slice v.uo h.upF.length v.uc, .slice v.ul h.up.length v.ulc, .slice v.wo h.dnF.length v.wc, .slice v.dl h.dn.length v.dlc], .pointer (some ⟨z, 0, none⟩), .pointer (some ⟨z + 1, 0, none⟩), .nilIface, .nilIface, .pointer (some ⟨y, 0, none⟩), undef, .pointer (some ⟨Bx, 0, none⟩), undef, undef, .agg #[.slice v.no h.node.length v.nc, .slice v.uo h.upF.length v.uc, .slice v.ul h.up.length v.ulc, .slice v.wo h.dnF.length v.wc, .slice v.dl h.dn.length v.dlc], .nilIface, .nilIface, .bool false, undef, undef, .agg #[.slice v.no h.node.length v.nc, .slice v.uo h.upF.length v.uc, .slice v.ul h.up.length v.ulc, .slice v.wo h.dnF.length v.wc, .slice v.dl h.dn.length v.dlc], .func (.func 42) #[] #[.pointer (some ⟨y + 1, 0, none⟩)], .int .i64 (x.1 : Int), svl x.2, undef, undef, undef, undef, undef, undef, undef, undef, undef, undef, undef, undef, undef, undef, undef, undef, undef, undef, undef, undef, undef, undef, undef, undef, undef, undef, undef, undef, undef, undef, undef, undef, undef, undef], defers := [] })
      (fun x a' _ A C hs ht => by obtain ⟨Bx, h1, h2⟩ := hs; exact ⟨Bx, ht.same _ _ h1 not_TnI_stand, h2⟩) ?assign ?body ?done (fun _ _ _ _ _ h _ => h.elim)
    case assign =>
      rintro l2 pre x Wc K hi hp hK
      have HHI : Hid (GRI w v h z y pre Wc) := hi
      clear hi
      obtain ⟨k, ⟨⟨hd, wt, lf, rt⟩, rk, up⟩⟩ := x
      dsimp only [encS, svl]
      gi_wp2
      exact hK _ _ ((KeepsT.refl _ _ _).alloc _) (HHI.out.turn hyz ((Turn.refl _ _ _).alloc HHI.out.sz _)) ⟨Wc.heap.size, heap_newW _ _, rfl⟩
    case body =>
      rintro l2 pre x a' Wc hl2 hi ⟨Bx, bX, rfl⟩ hp
      obtain ⟨aa, s, rfl, rfl, hpp⟩ := numd_prefix hp
      have hmem : s ∈ stds h := by
        obtain ⟨t, ht⟩ := hpp
        rw [← ht]
        simp
      have hsok := HSO.out s hmem
      obtain ⟨ft, fh, _, fw⟩ := form_mem HCL.out hmem
      have hal : aa.length < 1048576 := by have := hpp.length_le; have := HSL.out; simp at *; omega
      have HHI : Hid (GRI w v h z y (numd 0 aa) Wc) := hi
      obtain ⟨g3, g4, g5, g6, g7, g8⟩ := six_of bX
      have hBs := some_lt bX
      have hzs := some_lt hi.bx
      obtain ⟨nb, nof, en, hnb, hnc⟩ := (HH.out.keep (w' := Wc) (by rw [HZ.out]; exact hi.bl)).node.cells (by omega)
      have ct := hnc s.tail ft
      have ch := hnc s.head fh
      have s1 := HH.out.node.small s.tail
      have s2 := HH.out.node.small s.head
      have cz := (five_cells hi.bx).1
      rw [en] at cz
      have HK2 : Hid (∀ wx, Below Wc.heap.size Wc wx → wx.cell? ⟨z, 0, none⟩ = some (.slice (some ⟨nb, nof, none⟩) h.node.length v.nc) ∧ (wx.cell? ⟨Bx, 0, none⟩ = some (.int .u32 (s.lk.hd : Int)) ∧ wx.cell? ⟨Bx, 1, none⟩ = some (.int .u64 (s.lk.wt : Int)) ∧ wx.cell? ⟨Bx, 2, none⟩ = some (.int .u32 (s.lk.lf : Int)) ∧ wx.cell? ⟨Bx, 3, none⟩ = some (.int .u32 (s.lk.rt : Int)) ∧ wx.cell? ⟨Bx, 4, none⟩ = some (.int .u32 (s.rk : Int)) ∧ wx.cell? ⟨Bx, 5, none⟩ = some (.bool s.up)) ∧ wx.cell? ⟨nb, nof + s.tail, none⟩ = some (.int .u32 (nth h.node s.tail : Int)) ∧ wx.cell? ⟨nb, nof + s.head, none⟩ = some (.int .u32 (nth h.node s.head : Int))) := fun wx hx => ⟨(hx.cell (p := ⟨z, 0, none⟩) hzs).trans cz, ⟨(hx.cell (p := ⟨Bx, 0, none⟩) hBs).trans g3, (hx.cell (p := ⟨Bx, 1, none⟩) hBs).trans g4, (hx.cell (p := ⟨Bx, 2, none⟩) hBs).trans g5, (hx.cell (p := ⟨Bx, 3, none⟩) hBs).trans g6, (hx.cell (p := ⟨Bx, 4, none⟩) hBs).trans g7, (hx.cell (p := ⟨Bx, 5, none⟩) hBs).trans g8⟩, (hx.cell (p := ⟨nb, _, none⟩) hnb).trans ct, (hx.cell (p := ⟨nb, _, none⟩) hnb).trans ch⟩
      have HT1 : Hid (∀ wx, Below Wc.heap.size Wc wx → Calls Tryd.prog 23 #[.agg #[.int .u32 (s.lk.hd : Int), .int .u64 (s.lk.wt : Int), .int .u32 (s.lk.lf : Int), .int .u32 (s.lk.rt : Int), .int .u32 (s.rk : Int), .bool s.up]] wx fun e w' => e = .returned (.int .u32 (s.tail : Int)) ∧ Below Wc.heap.size Wc w') := fun wx hx => (tail_calls s wx).mono fun e w' ⟨q1, q2⟩ => ⟨q1, hx.trans (q2.mono hx.size)⟩
      have HT2 : Hid (∀ wx, Below Wc.heap.size Wc wx → Calls Tryd.prog 24 #[.agg #[.int .u32 (s.lk.hd : Int), .int .u64 (s.lk.wt : Int), .int .u32 (s.lk.lf : Int), .int .u32 (s.lk.rt : Int), .int .u32 (s.rk : Int), .bool s.up]] wx fun e w' => e = .returned (.int .u32 (s.head : Int)) ∧ Below Wc.heap.size Wc w') := fun wx hx => (head_calls s wx).mono fun e w' ⟨q1, q2⟩ => ⟨q1, hx.trans (q2.mono hx.size)⟩
      have HPL : Hid (∀ m wx, Below Wc.heap.size Wc wx → CallsIn (Fence.wide.inRound l2) m Tryd.prog 33 #[.agg #[.int .u32 (s.lk.hd : Int), .int .u64 (s.lk.wt : Int), .int .u32 (s.lk.lf : Int), .int .u32 (s.lk.rt : Int)]] wx fun e w' => e = .returned (.bool s.lk.plain) ∧ Below Wc.heap.size Wc w') := fun m wx hx => CallsIn.inRound l2 (callsIn_wide.2 ((plain_calls s.lk wx).mono fun e w' ⟨q1, q2⟩ => ⟨q1, hx.trans (q2.mono hx.size)⟩))
      have v1 : IntKind.i64.wrap (nth h.node s.tail : Int) = (nth h.node s.tail : Int) := by rw [IntKind.wrap_i64]; omega
      have v2 : IntKind.i64.wrap (nth h.node s.head : Int) = (nth h.node s.head : Int) := by rw [IntKind.wrap_i64]; omega
      have i1 : (s.tail : Int) < (h.node.length : Int) := by omega
      have i2 : (s.head : Int) < (h.node.length : Int) := by omega
      have HLN : Hid (aa.length < 1048576 ∧ (numd 0 aa).map Prod.snd = aa) := ⟨hal, numd_map 0 aa⟩
      clear hi bX hsok hpp hp hnc hmem
      dsimp only [svl]
      obtain ⟨pl, hpl⟩ : ∃ pl, s.lk.plain = pl := ⟨_, rfl⟩
      rw [hpl] at HPL
      have HPP : Hid (s.lk.plain = pl) := hpl
      clear hpl
      cases pl
      · gi_wp2_with (refine ⟨trivial, ?_⟩; (with_reducible refine (HPL.out _ _ (Below.refl _ _)).mono ?_); rintro e wp ⟨rfl, hbp⟩; have HBP : Hid (Below Wc.heap.size Wc wp) := hbp; clear hbp)
        exact ⟨keepsT_below HBP.out, gri_skip HPP.out (HHI.out.below hyz HBP.out)⟩
      · have hwt := fw HPP.out
        have v3 : IntKind.i64.wrap (s.lk.wt : Int) = (s.lk.wt : Int) := by rw [IntKind.wrap_i64]; omega
        gi_wp2_with (refine ⟨trivial, ?_⟩; (with_reducible refine (HPL.out _ _ (Below.refl _ _)).mono ?_); rintro e wp ⟨rfl, hbp⟩)
        · refine region_round (S := fun w' => w'.cell? ⟨z, 0, none⟩ = some (.slice (some ⟨nb, nof, none⟩) h.node.length v.nc) ∧ (w'.cell? ⟨Bx, 0, none⟩ = some (.int .u32 (s.lk.hd : Int)) ∧ w'.cell? ⟨Bx, 1, none⟩ = some (.int .u64 (s.lk.wt : Int)) ∧ w'.cell? ⟨Bx, 2, none⟩ = some (.int .u32 (s.lk.lf : Int)) ∧ w'.cell? ⟨Bx, 3, none⟩ = some (.int .u32 (s.lk.rt : Int)) ∧ w'.cell? ⟨Bx, 4, none⟩ = some (.int .u32 (s.rk : Int)) ∧ w'.cell? ⟨Bx, 5, none⟩ = some (.bool s.up)) ∧ w'.cell? ⟨nb, nof + s.tail, none⟩ = some (.int .u32 (nth h.node s.tail : Int)) ∧ w'.cell? ⟨nb, nof + s.head, none⟩ = some (.int .u32 (nth h.node s.head : Int))) (by kernel_rfl) (by kernel_rfl) (fun ⟨_, _, g⟩ => g) (HK2.out _ (hbp.drew)) (fun hHeld => ?_)
          refine wpAnyH_take (i := 0) (oi := { dst := some 23, op := Op.fieldAddr 31 (Operand.tmp 1) 0, type := 0, pos := "hier.go:32", after := #[], guard := none }) (v := ?vg0) rfl (by kernel_rfl) (by kernel_rfl) (by kernel_rfl) (fun _ _ _ h => h) (Or.inl ⟨by rfl, ?hg0⟩) (by assumption) ?rg0
          case hg0 => ((intro wz hSw; (try dsimp only at hSw); go_simp); try (with_reducible rfl))
          simp only [Act.put, List.setIfInBounds_toArray, List.set_cons_zero, List.set_cons_succ]
          refine wpAnyH_take (i := 1) (oi := { dst := some 24, op := Op.load 28 (Operand.tmp 23), type := 28, pos := "hier.go:32", after := #[{ on := 0, ground := Ground.data }], guard := none }) (v := ?vg1) rfl (by kernel_rfl) (by kernel_rfl) (by kernel_rfl) (fun _ _ _ h => h) (Or.inl ⟨by rfl, ?hg1⟩) (by assumption) ?rg1
          case hg1 => ((intro wz hSw; (try dsimp only at hSw); go_simp); try (with_reducible rfl))
          simp only [Act.put, List.setIfInBounds_toArray, List.set_cons_zero, List.set_cons_succ]
          refine wpAnyH_take (i := 2) (oi := { dst := some 25, op := Op.load 70 (Operand.tmp 7), type := 70, pos := "hier.go:32", after := #[], guard := none }) (v := ?vg2) rfl (by kernel_rfl) (by kernel_rfl) (by kernel_rfl) (fun _ _ _ h => h) (Or.inl ⟨by rfl, ?hg2⟩) (by assumption) ?rg2
          case hg2 => ((intro wz hSw; (try dsimp only at hSw); go_simp); try (with_reducible rfl))
          simp only [Act.put, List.setIfInBounds_toArray, List.set_cons_zero, List.set_cons_succ]
          refine wpAnyH_take (i := 6) (oi := { dst := some 29, op := Op.fieldAddr 31 (Operand.tmp 1) 0, type := 0, pos := "hier.go:32", after := #[{ on := 12, ground := Ground.gcOnly Departure.lateStores }], guard := none }) (v := ?vg6) rfl (by kernel_rfl) (by kernel_rfl) (by kernel_rfl) (fun _ _ _ h => h) (Or.inl ⟨by rfl, ?hg6⟩) (by assumption) ?rg6
          case hg6 => ((intro wz hSw; (try dsimp only at hSw); go_simp); try (with_reducible rfl))
          simp only [Act.put, List.setIfInBounds_toArray, List.set_cons_zero, List.set_cons_succ]
          refine wpAnyH_take (i := 7) (oi := { dst := some 30, op := Op.load 28 (Operand.tmp 29), type := 28, pos := "hier.go:32", after := #[{ on := 6, ground := Ground.data }, { on := 12, ground := Ground.gcOnly Departure.lateStores }], guard := none }) (v := ?vg7) rfl (by kernel_rfl) (by kernel_rfl) (by kernel_rfl) (fun _ _ _ h => h) (Or.inl ⟨by rfl, ?hg7⟩) (by assumption) ?rg7
          case hg7 => ((intro wz hSw; (try dsimp only at hSw); go_simp); try (with_reducible rfl))
          simp only [Act.put, List.setIfInBounds_toArray, List.set_cons_zero, List.set_cons_succ]
          refine wpAnyH_take (i := 8) (oi := { dst := some 31, op := Op.load 70 (Operand.tmp 7), type := 70, pos := "hier.go:32", after := #[], guard := none }) (v := ?vg8) rfl (by kernel_rfl) (by kernel_rfl) (by kernel_rfl) (fun _ _ _ h => h) (Or.inl ⟨by rfl, ?hg8⟩) (by assumption) ?rg8
          case hg8 => ((intro wz hSw; (try dsimp only at hSw); go_simp); try (with_reducible rfl))
          simp only [Act.put, List.setIfInBounds_toArray, List.set_cons_zero, List.set_cons_succ]
          refine wpAnyH_ready (rs := [3]) (by kernel_rfl) (by simp) ?_
          refine AllReadyH.cons (o := { dst := some 26, op := Op.call { callee := Callee.value (Operand.func 23), args := #[Operand.tmp 25], argTypes := #[70] }, type := 34, pos := "hier.go:32", after := #[{ on := 2, ground := Ground.data }], guard := none }) rfl (fun K hK => ?_) AllReadyH.nil
          go_simp
          go_at_call 23
          refine (HT1.out _ hbp.drew).mono ?_
          rintro e wt ⟨rfl, hbt⟩
          go_wp2_with fail
          refine hK.out _ _ (HK2.out _ hbt) (fun hHeld1 => ?_)
          clear hK K hHeld
          refine wpAnyH_take (i := 4) (oi := { dst := some 27, op := Op.indexAddr 28 (Operand.tmp 24) (Operand.tmp 26), type := 0, pos := "hier.go:32", after := #[{ on := 1, ground := Ground.data }, { on := 3, ground := Ground.data }], guard := none }) (v := ?vg4) rfl (by kernel_rfl) (by kernel_rfl) (by kernel_rfl) (fun _ _ _ h => h) (Or.inl ⟨by rfl, ?hg4⟩) (by assumption) ?rg4
          case hg4 => ((intro wz hSw; (try dsimp only at hSw); go_simp); try (with_reducible rfl))
          simp only [Act.put, List.setIfInBounds_toArray, List.set_cons_zero, List.set_cons_succ]
          refine wpAnyH_take (i := 5) (oi := { dst := some 28, op := Op.load 34 (Operand.tmp 27), type := 34, pos := "hier.go:32", after := #[{ on := 4, ground := Ground.data }], guard := none }) (v := ?vg5) rfl (by kernel_rfl) (by kernel_rfl) (by kernel_rfl) (fun _ _ _ h => h) (Or.inl ⟨by rfl, ?hg5⟩) (by assumption) ?rg5
          case hg5 => ((intro wz hSw; (try dsimp only at hSw); go_simp); try (with_reducible rfl))
          simp only [Act.put, List.setIfInBounds_toArray, List.set_cons_zero, List.set_cons_succ]
          refine wpAnyH_ready (rs := [9]) (by kernel_rfl) (by simp) ?_
          refine AllReadyH.cons (o := { dst := some 32, op := Op.call { callee := Callee.value (Operand.func 24), args := #[Operand.tmp 31], argTypes := #[70] }, type := 34, pos := "hier.go:32", after := #[{ on := 8, ground := Ground.data }, { on := 3, ground := Ground.chain }], guard := none }) rfl (fun K hK => ?_) AllReadyH.nil
          go_simp
          go_at_call 24
          refine (HT2.out _ hbt).mono ?_
          rintro e wh ⟨rfl, hbh⟩
          go_wp2_with fail
          refine hK.out _ _ (HK2.out _ hbh) (fun hHeld2 => ?_)
          clear hK K hHeld1
          refine wpAnyH_take (i := 10) (oi := { dst := some 33, op := Op.indexAddr 28 (Operand.tmp 30) (Operand.tmp 32), type := 0, pos := "hier.go:32", after := #[{ on := 7, ground := Ground.data }, { on := 9, ground := Ground.data }, { on := 12, ground := Ground.gcOnly Departure.lateStores }], guard := none }) (v := ?vg10) rfl (by kernel_rfl) (by kernel_rfl) (by kernel_rfl) (fun _ _ _ h => h) (Or.inl ⟨by rfl, ?hg10⟩) (by assumption) ?rg10
          case hg10 => ((intro wz hSw; (try dsimp only at hSw); go_simp); try (with_reducible rfl))
          simp only [Act.put, List.setIfInBounds_toArray, List.set_cons_zero, List.set_cons_succ]
          refine wpAnyH_take (i := 11) (oi := { dst := some 34, op := Op.load 34 (Operand.tmp 33), type := 34, pos := "hier.go:32", after := #[{ on := 10, ground := Ground.data }, { on := 12, ground := Ground.gcOnly Departure.lateStores }], guard := none }) (v := ?vg11) rfl (by kernel_rfl) (by kernel_rfl) (by kernel_rfl) (fun _ _ _ h => h) (Or.inl ⟨by rfl, ?hg11⟩) (by assumption) ?rg11
          case hg11 => ((intro wz hSw; (try dsimp only at hSw); go_simp); try (with_reducible rfl))
          simp only [Act.put, List.setIfInBounds_toArray, List.set_cons_zero, List.set_cons_succ]
          refine wpAnyH_take (i := 12) (oi := { dst := some 8, op := Op.assign (Operand.tmp 28), type := 34, pos := "hier.go:32", after := #[{ on := 5, ground := Ground.data }, { on := 9, ground := Ground.chain }, { on := 0, ground := Ground.phase }, { on := 1, ground := Ground.phase }, { on := 2, ground := Ground.phase }, { on := 3, ground := Ground.phase }, { on := 4, ground := Ground.phase }, { on := 5, ground := Ground.phase }, { on := 6, ground := Ground.textOnly Departure.lateStores }, { on := 7, ground := Ground.textOnly Departure.lateStores }, { on := 8, ground := Ground.textOnly Departure.lateStores }, { on := 9, ground := Ground.textOnly Departure.lateStoresUnsure }, { on := 10, ground := Ground.textOnly Departure.lateStores }, { on := 11, ground := Ground.textOnly Departure.lateStores }], guard := none }) (v := ?vg12) rfl (by kernel_rfl) (by kernel_rfl) (by kernel_rfl) (fun _ _ _ h => h) (Or.inl ⟨by rfl, ?hg12⟩) (by assumption) ?rg12
          case hg12 => ((intro wz hSw; (try dsimp only at hSw); go_simp); try (with_reducible rfl))
          simp only [Act.put, List.setIfInBounds_toArray, List.set_cons_zero, List.set_cons_succ]
          refine wpAnyH_take (i := 13) (oi := { dst := some 9, op := Op.assign (Operand.tmp 34), type := 34, pos := "hier.go:32", after := #[{ on := 11, ground := Ground.data }, { on := 12, ground := Ground.chain }, { on := 0, ground := Ground.phase }, { on := 1, ground := Ground.phase }, { on := 2, ground := Ground.phase }, { on := 3, ground := Ground.phase }, { on := 4, ground := Ground.phase }, { on := 5, ground := Ground.phase }, { on := 6, ground := Ground.phase }, { on := 7, ground := Ground.phase }, { on := 8, ground := Ground.phase }, { on := 9, ground := Ground.phase }, { on := 10, ground := Ground.phase }, { on := 11, ground := Ground.phase }, { on := 12, ground := Ground.phase }], guard := none }) (v := ?vg13) rfl (by kernel_rfl) (by kernel_rfl) (by kernel_rfl) (fun _ _ _ h => h) (Or.inl ⟨by rfl, ?hg13⟩) (by assumption) ?rg13
          case hg13 => ((intro wz hSw; (try dsimp only at hSw); go_simp); try (with_reducible rfl))
          simp only [Act.put, List.setIfInBounds_toArray, List.set_cons_zero, List.set_cons_succ]
          refine wpAnyH_done (by kernel_rfl) ?_ _
          have HBH : Hid (Below Wc.heap.size Wc wh) := hbh
          have HGI : Hid (GRI w v h z y (numd 0 aa) wh) := HHI.out.below hyz hbh
          obtain ⟨r0, ⟨r1, r2, r3, r4, r5, r6⟩, r7, r8⟩ := HK2.out wh hbh
          obtain ⟨u, hu, hr⟩ := HGI.out.row
          have hsz := HGI.out.sz
          have q1 := hu.cell
          have hgl : (gArcs h ((numd 0 aa).map Prod.snd)).length < 1048576 := by rw [HLN.out.2]; have := gArcs_len h aa; have := HLN.out.1; omega
          have HHU : Hid (Boxed wh y 53 u ∧ wh.ownsRow y 60 3 u (gArcs h ((numd 0 aa).map Prod.snd)).length (flatA (gArcs h ((numd 0 aa).map Prod.snd)))) := ⟨hu, hr⟩
          clear hHeld2 hbh hbt hbp hu g3 g4 g5 g6 g7 g8 ct ch cz
          gi_wp2_with (gi_at_builtin; refine wpListIn_append_own _ rfl _ _ 53 rfl y 60 i0 (.agg #[.int .i64 0, .int .i64 0, .int .i64 0]) 3 24 Tryd.underlying53 hi9 hz0 hz1' hz2 rfl (by decide) _ _ _ rfl (hr.alloc _) ⟨wh.heap.size, 0, none⟩ 1 1 (encA (arcOf h s)) rfl rfl (arc_new wh (arcOf h s)) (arc_one _) (by unfold maxLen; omega) (by omega) (by simp; omega) ?_; intro v' w9 hown' hgrow _; obtain ⟨g', cap', rfl⟩ := ownsRow_succ hown'; obtain ⟨p1, p2, p3⟩ := gri_step (x := (aa.length, s)) hyz HPP.out HGI.out HHU.out.1 HHU.out.2 hown' hgrow; have HQ : Hid (GRI w v h z y (numd 0 aa ++ [(aa.length, s)]) (w9.setCell ⟨y, 0, none⟩ (.slice (some ⟨g', 0, none⟩) ((gArcs h ((numd 0 aa).map Prod.snd)).length + 1) cap')) ∧ KeepsT TnI (y + 1 + 1) wh (w9.setCell ⟨y, 0, none⟩ (.slice (some ⟨g', 0, none⟩) ((gArcs h ((numd 0 aa).map Prod.snd)).length + 1) cap'))) := ⟨p2, p3⟩; have y1 := p1.cell; have y2 := p1.frozen; clear p1 p2 p3 hown' hgrow)
          exact ⟨(keepsT_below HBH.out).trans (by rw [hs1]; exact HQ.out.2), HQ.out.1⟩
    case done =>
      rintro D Wd hD hi hK
      rw [hs1] at hD
      obtain ⟨u, hu, hr⟩ := hi.row
      rw [numd_map] at hr
      obtain ⟨lo, c, hu0, hlo, hsort⟩ := sort_own hr (Nat.le_trans (gArcs_len h _) HSL.out)
      subst hu0
      have HS : Hid _ := hsort
      have HLO : Hid (∀ a, lo = some a → y ≤ a.block ∧ ∃ cur, Wd.heap[a.block]? = some (.cells cur 60)) := hlo
      have HGI : Hid (GRI w v h z y (numd 0 (stds h)) Wd) := hi
      have HKD : Hid (Wd.heap[D]? = some (.deferred (some []))) := hK
      have q1 := hu.cell
      obtain ⟨c0, c1, c2, c3, c4⟩ := five_cells hi.bx
      have HBY : Hid (Boxed Wd y 53 (.slice lo (gArcs h (stds h)).length c)) := hu
      obtain ⟨kk, hkk⟩ : ∃ kk, (gArcs h (stds h)).length = kk := ⟨_, rfl⟩
      rw [hkk] at q1 HS HBY
      have HSORT : Hid (Calls Tryd.prog 34 #[.slice lo kk c, .func (.func 35) #[] #[]] Wd fun e w' => e = .returned (.tuple #[]) ∧ Hid (HasArcs w' (.slice lo kk c) (sortE (gArcs h (stds h)))) ∧ (w'.heap[z]? = some (.cells (cellsH v h) 31) ∧ w'.heap[z + 1]? = some (.cells #[.int .i64 0, .slice none 0 0] 55) ∧ Boxed w' y 53 (.slice lo kk c) ∧ w'.heap[D]? = some (.deferred (some []))) ∧ Below z w w' ∧ Wd.heap.size ≤ w'.heap.size) := by
        refine Calls.mono HS.out ?_
        rintro e w' ⟨g1, g2, g3, g4, g5, g6, g7⟩
        have far : ∀ (k : Nat) (o : Obj), Wd.heap[k]? = some o → (∀ c, o ≠ .cells c 60) → w'.heap[k]? = some o := fun k o hk hn => (g7 k (some_lt hk) (fun a ha e => by obtain ⟨_, cur, hc⟩ := HLO.out a ha; rw [e, hk] at hc; cases hc; exact hn _ rfl)).trans hk
        refine ⟨g1, g2, ⟨far _ _ hi.bx (fun c e => by cases e), far _ _ hi.gx (fun c e => by cases e), far _ _ HBY.out (fun c e => by cases e), far _ _ hK (fun c e => by cases e)⟩, ⟨g4.trans hi.bl.os, g5.trans hi.bl.tape, g6.trans hi.bl.output, Nat.le_trans hi.bl.size g3, fun k hk => ?_⟩, g3⟩
        have := hi.sz
        exact (g7 k (by omega) (fun a ha e => by have := (HLO.out a ha).1; omega)).trans (hi.bl.block _ hk)
      have HKZ : Hid (∀ a, lo = some a → a.block ≠ z + 1 ∧ a.block ≠ D ∧ a.block < Wd.heap.size) := fun a ha => by
        obtain ⟨g1, cur, g2⟩ := HLO.out a ha
        exact ⟨by omega, fun e => (by rw [e, hK] at g2; cases g2), some_lt g2⟩
      clear hi hK hsort hu hr hlo hkk HI HS
      go_wp2_with (go_at_call 34; refine HSORT.out.mono ?_; rintro e w9 ⟨rfl, HA9, ⟨g1, g2, g3, g4⟩, g5, g6⟩; have H9 : Hid ((w9.heap[z]? = some (.cells (cellsH v h) 31) ∧ w9.heap[z + 1]? = some (.cells #[.int .i64 0, .slice none 0 0] 55) ∧ Boxed w9 y 53 (.slice lo kk c) ∧ w9.heap[D]? = some (.deferred (some []))) ∧ Below z w w9 ∧ Wd.heap.size ≤ w9.heap.size) := ⟨⟨g1, g2, g3, g4⟩, g5, g6⟩; have d0 := (five_cells g1).1; have d1 : w9.cell? ⟨z + 1, 0, none⟩ = some (.int .i64 0) := (by simp [World.cell?, g2]); have d2 : w9.cell? ⟨z + 1, 1, none⟩ = some (.slice none 0 0) := (by simp [World.cell?, g2]); have d3 := g3.cell; have d4 : w9.frozen? ⟨z + 1, 0, none⟩ = false := (by simp [World.frozen?, g2]); have d5 : w9.frozen? ⟨z + 1, 1, none⟩ = false := (by simp [World.frozen?, g2]); clear g1 g2 g3 g4 g5 g6)
      have f1 : ((w9.setCell ⟨z + 1, 0, none⟩ (.int .i64 (h.node.length : Int))).setCell ⟨z + 1, 1, none⟩ (.slice lo kk c)).heap[D]? = some (.deferred (some [])) := ((Below.heap_setCell _ _ _ _ (by show D ≠ z + 1; omega)).trans (Below.heap_setCell _ _ _ _ (by show D ≠ z + 1; omega))).trans H9.out.1.2.2.2
      have f2 : (((w9.setCell ⟨z + 1, 0, none⟩ (.int .i64 (h.node.length : Int))).setCell ⟨z + 1, 1, none⟩ (.slice lo kk c)).putObj D (.deferred none)).heap[z + 1]? = some (.cells #[.int .i64 (h.node.length : Int), .slice lo kk c] 55) := (World.putObj_heap_other (by omega)).trans (set_two H9.out.1.2.1 _ _)
      refine ⟨fun ch e => (by cases e), by simp, .inl ⟨_, _, rfl, run_takeDeferred f1, ?_⟩⟩
      refine ⟨_, graph_res f2 rfl, (h.node.length : Int), lo, kk, c, _, sortE (gArcs h (stds h)), rfl, ?_, ?_, Or.inl ⟨HC.out, rfl, rfl, rfl⟩⟩
      · rw [HZ.out]
        exact ((H9.out.2.1.setCell (p := ⟨z + 1, 0, none⟩) (by show z ≤ z + 1; omega) _).setCell (p := ⟨z + 1, 1, none⟩) (by show z ≤ z + 1; omega) _).trans ((Turn.refl TnC z _).putObj (by omega) f1 rfl _).below
      · refine arcs_far HA9.out (by simp [World.setCell]) (fun a ha => ?_)
        obtain ⟨g1, g2, _⟩ := HKZ.out a ha
        exact (World.putObj_heap_other g2).trans ((Below.heap_setCell _ _ _ _ g1).trans (Below.heap_setCell _ _ _ _ g1))
  · have HC : Hid (chk h ≠ (0, [])) := hck
    have HCK2 : Hid (Calls Tryd.prog 9 #[.agg #[.slice v.no h.node.length v.nc, .slice v.uo h.upF.length v.uc, .slice v.ul h.up.length v.ulc, .slice v.wo h.dnF.length v.wc, .slice v.dl h.dn.length v.dlc]] W0 fun e w' => ∃ t x, e = .returned (.iface t x) ∧ IsTold w' (chk h) (.iface t x) ∧ Below W0.heap.size W0 w') := HCK.out.mono fun e w' ⟨u, h1, h2, h3⟩ => by
      obtain ⟨t, x, e0, _⟩ := isTold_some h2 HC.out
      subst e0
      exact ⟨t, x, h1, h2, h3⟩
    clear HCK hck
    go_wp2_with (go_at_call 9; refine HCK2.out.mono ?_; rintro e w1 ⟨ut, ux, rfl, htu, hbu⟩; have HE1 : Hid (w1.heap[z + 1]? = some (.cells #[.int .i64 0, .slice none 0 0] 55) ∧ Below z w w1 ∧ IsTold w1 (chk h) (.iface ut ux)) := ⟨(hbu.block _ (by omega)).trans HE0.out.2.1, HE0.out.2.2.trans (hbu.mono (by omega)), htu⟩; have d1 : w1.cell? ⟨z + 1, 0, none⟩ = some (.int .i64 0) := (by simp [World.cell?, HE1.out.1]); have d2 : w1.cell? ⟨z + 1, 1, none⟩ = some (.slice none 0 0) := (by simp [World.cell?, HE1.out.1]); have d4 : w1.frozen? ⟨z + 1, 0, none⟩ = false := (by simp [World.frozen?, HE1.out.1]); have d5 : w1.frozen? ⟨z + 1, 1, none⟩ = false := (by simp [World.frozen?, HE1.out.1]); clear htu hbu)
    refine ⟨fun ch e => (by cases e), ?_⟩
    refine ⟨_, graph_res (set_two HE1.out.1 (.int .i64 0) (.slice none 0 0)) rfl, 0, none, 0, 0, _, [], rfl, ?_, ⟨none, 0, rfl, fun j a hj => by simp at hj⟩, Or.inr ⟨HC.out, rfl, rfl, ?_⟩⟩
    · rw [HZ.out]
      exact (HE1.out.2.1.setCell (p := ⟨z + 1, 0, none⟩) (by show z ≤ z + 1; omega) _).setCell (p := ⟨z + 1, 1, none⟩) (by show z ≤ z + 1; omega) _
    · refine HE1.out.2.2.keep (fun b c hb => ?_)
      have e1 : b ≠ z + 1 := fun e => by rw [e, HE1.out.1] at hb; cases hb
      exact ((Below.heap_setCell _ _ _ _ e1).trans (Below.heap_setCell _ _ _ _ e1)).trans hb
end Go.Proofs.YtlhblkahnenjcaaDoor.Hi
