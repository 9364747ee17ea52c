/- a drawn region in a round of a range over a function, walked by hand: what holds outside a round holds in it. hier.Graph. viaductref03's SameArcs and Same at lists and graphs that are one: they say so. the law's awake. the graph of a hierarchy turned about: mathematics. hier.Turn at a hierarchy that is not in form; what HierTurns leans on. -/
import Derived.Test.YtkehpmbnbknpfaaHrN
import Derived.Test.YtkehpmbnbknpfaaHrK
import Derived.Test.YtkehpmbnbknpfaaNoX
import Derived.Deep.QuietTactic
import Derived.BigQuiet
import Derived.Test.YtkehpmbnbknpfaaHrQ
import Derived.Test.YtkehpmbnbknpfaaHtA
import Derived.Test.YtkehpmbnbknpfaaHsF
import Derived.Test.YtkehpmbnbknpfaaHrZ
namespace Go.Proofs.Ytkehpmbnbknpfaa.Hi
open Go.RowKit Go.Extern Go.Sort Go.Shelf

section
variable {P : Program} {ops : Array Oper} {Q : Exit → Act → World → Prop} {md : Region.Mode} {l n : Nat}
theorem upon_round {o : Oper} {a : Act} {K : Act → World → Prop} {r : Result Next} (h : o.upon P a K Q r) : o.uponIn (Fence.wide.inRound l) n P a K Q r := by
  cases r with
  | ok x w =>
    cases x <;> simp only [Oper.upon, Oper.uponIn] at h ⊢ <;>
      first
        | exact h
        | exact ⟨fun g => (by cases g), CallsIn.inRound l (callsIn_wide.2 h)⟩
        | exact ⟨fun g => (by cases g), fun c cs _ => let ⟨v, w', r, s⟩ := h c cs; ⟨v, w', r, stepsIn_wide.2 s⟩⟩
        | exact h.elim
  | halt x w => cases x <;> simp only [Oper.upon, Oper.uponIn] at h ⊢ <;> exact h
theorem op_round (hnd : ∀ (i : Nat) (o : Oper), ops[i]? = some o → ∀ c, o.op ≠ .defer c) (hQ : ¬ LetsOut Q) {i : Nat} {K : Act → World → Prop} {a : Act} {w : World} (h : wpOp P ops Q i K a w) : wpOpIn (Fence.wide.inRound l) n P ops Q i K a w := by
  unfold wpOp at h
  unfold wpOpIn
  cases ho : ops[i]? with
  | none => rw [ho] at h; exact h
  | some o =>
    rw [ho] at h
    simp only at h ⊢
    split
    · rename_i hw
      rw [if_pos hw] at h
      rcases h with h | h
      · refine ⟨fun _ _ => trivial, ?_⟩
        rw [Oper.semAt_plain _ _ _ (hnd i o ho)]
        exact upon_round h
      · exact absurd h.2 hQ
    · rename_i hw
      rw [if_neg hw] at h
      exact ⟨fun _ _ => trivial, h⟩
theorem any_round (hnd : ∀ (i : Nat) (o : Oper), ops[i]? = some o → ∀ c, o.op ≠ .defer c) (hQ : ¬ LetsOut Q) : ∀ (fuel : Nat) (listed : Array Bool) (a : Act) (w : World), wpAny P md ops Q fuel listed a w → wpAnyIn (Fence.wide.inRound l) n P md ops Q fuel listed a w
  | 0, _, _, _, h => h
  | fuel + 1, _, _, _, h => ⟨h.1, fun i hi => wpOpIn_mono (fun a w g => any_round hnd hQ fuel _ a w g) (op_round hnd hQ (h.2 i hi))⟩
/-- THE LAW: the region is walked as outside of a round, S held. -/
theorem region_round {S : World → Prop} {id : Nat} {a : Act} {w : World} (hm : P.follows .mixedOrders = true) (hnd : (ops.all fun o => !(o.op matches .defer _)) = true) (hQ : ¬ LetsOut Q) (hS : S w.drew) (h : S w.drew → wpAnyH P .any ops Q S ops.size (Array.replicate ops.size false) a w.drew) :
    (Code.region id ops true).wpIn (Fence.wide.inRound l) n P Q a w := by
  refine wpIn_region_any hm (any_round ?_ hQ _ _ _ _ (wpAny_of_held _ _ _ _ (h hS)))
  intro i o ho c e
  have h1 := (Array.all_eq_true_iff_forall_mem.1 hnd) o (Array.mem_of_getElem? ho)
  rw [e] at h1
  simp at h1
end
end Go.Proofs.Ytkehpmbnbknpfaa.Hi

namespace Go.Proofs.Ytkehpmbnbknpfaa.Hi
open Go.RowKit Go.Extern Go.Sort Go.Shelf

attribute [local go_sem] Oper.semAt_some

theorem not_TnI_arc {c : Array Value} : ¬ TnI (.cells c 49) := by
  rintro (h | ⟨c', t, z, h, hh⟩)
  · simp [Obj.isCells] at h
  · injection h with h1 h2 h3
    subst h2
    rcases hh with h | h | h | h <;> revert h <;> decide
/-- while the plain links are gathered. -/
structure GRI (w : World) (v : HV) (h : Hr) (z y : Nat) (pre : List (Nat × Sd)) (Wc : World) : Prop where
  row : ∃ u, Boxed Wc y 33 u ∧ Wc.ownsRow y 49 3 u (gArcs h (pre.map Prod.snd)).length (flatA (gArcs h (pre.map Prod.snd)))
  gx : Wc.heap[z + 1]? = some (.cells #[.int .i64 0, .slice none 0 0] 35)
  bx : Wc.heap[z]? = some (.cells (cellsH v h) 25)
  bh : Wc.heap[y + 1]? = some (.cells (cellsH v h) 25)
  bl : Below z w Wc
  sz : y + 1 + 1 ≤ Wc.heap.size
theorem GRI.turn {w : World} {v : HV} {h : Hr} {z y : Nat} {pre : List (Nat × Sd)} {A C : World} (hzy : z + 1 < y) (hi : GRI w v h z y pre A) (ht : Turn TnI (y + 1 + 1) A C) : GRI w v h z y pre C := by
  obtain ⟨⟨u, h1, h2⟩, h3, h4, h5, h6, h7⟩ := hi
  exact ⟨⟨u, (ht.below.block _ (by omega)).trans h1, own_keep h2 fun k cur _ hc => ht.same _ _ hc not_TnI_arc⟩, (ht.below.block _ (by omega)).trans h3, (ht.below.block _ (by omega)).trans h4, (ht.below.block _ (by omega)).trans h5, h6.trans (ht.below.mono (by omega)), Nat.le_trans h7 ht.below.size⟩
theorem GRI.below {w : World} {v : HV} {h : Hr} {z y : Nat} {pre : List (Nat × Sd)} {A C : World} (hzy : z + 1 < y) (hi : GRI w v h z y pre A) (hb : Below A.heap.size A C) : GRI w v h z y pre C := by
  have := hi.sz
  exact hi.turn hzy ⟨hb.mono this, fun k o hk _ => (hb.block _ (some_lt hk)).trans hk⟩
theorem gri_step {w : World} {v : HV} {h : Hr} {z y : Nat} {pre : List (Nat × Sd)} {x : Nat × Sd} {Wc w1 : World} {u u' : Value} {tmp : Obj} (hzy : z + 1 < y) (hpl : x.2.lk.plain = true) (hi : GRI w v h z y pre Wc) (hv : Boxed Wc y 33 u) (hr : Wc.ownsRow y 49 3 u (gArcs h (pre.map Prod.snd)).length (flatA (gArcs h (pre.map Prod.snd))))
    (hown' : w1.ownsRow y 49 3 u' ((gArcs h (pre.map Prod.snd)).length + 1) (flatA (gArcs h (pre.map Prod.snd)) ++ encA (arcOf h x.2))) (hgrow : (Wc.alloc tmp).grownBy w1 u.ownBlock) :
    Boxed w1 y 33 u ∧ GRI w v h z y (pre ++ [x]) (w1.setCell ⟨y, 0, none⟩ u') ∧ KeepsT TnI (y + 1 + 1) Wc (w1.setCell ⟨y, 0, none⟩ u') := by
  have hs := hi.sz
  obtain ⟨hv1, hv2, hr2, hk2, hb2⟩ := hv.appended (by decide) hr (by omega) (Nat.le_refl _) hown' hgrow
  have hblk : ∀ k, u.ownBlock = some k → ∃ cur, Wc.heap[k]? = some (.cells cur 49) := fun k hk => by
    rcases hr.2 with ⟨rfl, _⟩ | ⟨g, cap, cur, rfl, _, hh, _⟩
    · cases hk
    · cases hk; exact ⟨cur, hh⟩
  have hother : ∀ (k : Nat) (o : Obj), Wc.heap[k]? = some o → (∀ c, o ≠ .cells c 49) → w1.heap[k]? = some o := fun k o hk hn => by
    have e1 : (Wc.alloc tmp).heap[k]? = some o := (Below.heap_alloc _ _ _ (some_lt hk)).trans hk
    refine (hgrow.block k (some_lt e1) (fun e => ?_)).trans e1
    obtain ⟨cur, hc⟩ := hblk k e.symm
    rw [hk] at hc
    cases hc
    exact hn cur rfl
  have e : gArcs h ((pre ++ [x]).map Prod.snd) = gArcs h (pre.map Prod.snd) ++ [arcOf h x.2] := by
    rw [List.map_append, List.map_singleton, gArcs_snoc, if_pos hpl]
  refine ⟨hv1, ⟨⟨u', hv2, ?_⟩, ?_, ?_, ?_, ?_, ?_⟩, ?_⟩
  · rw [e, List.length_append, flatA_append]
    have : flatA [arcOf h x.2] = encA (arcOf h x.2) := by simp [flatA]
    rw [this]
    exact hr2
  · exact (Below.heap_setCell _ _ _ _ (by show z + 1 ≠ y; omega)).trans (hother _ _ hi.gx (fun c e => by cases e))
  · exact (Below.heap_setCell _ _ _ _ (by show z ≠ y; omega)).trans (hother _ _ hi.bx (fun c e => by cases e))
  · exact (Below.heap_setCell _ _ _ _ (by show y + 1 ≠ y; omega)).trans (hother _ _ hi.bh (fun c e => by cases e))
  · exact hi.bl.trans (hb2.mono (by omega))
  · have := hgrow.size
    simp at this
    simp [World.setCell]
    omega
  · refine (((KeepsT.refl _ _ _).alloc tmp).grown hgrow (fun k hk => Or.inr ?_)).setCell (p := ⟨y, 0, none⟩) (Or.inl (by show y < _; omega)) _
    obtain ⟨cur, hc⟩ := hblk k hk
    exact ⟨_, (Below.heap_alloc _ _ _ (some_lt hc)).trans hc, not_TnI_arc⟩
theorem gri_skip {w : World} {v : HV} {h : Hr} {z y : Nat} {pre : List (Nat × Sd)} {x : Nat × Sd} {Wc : World} (hpl : x.2.lk.plain = false) (hi : GRI w v h z y pre Wc) : GRI w v h z y (pre ++ [x]) Wc := by
  have e : gArcs h ((pre ++ [x]).map Prod.snd) = gArcs h (pre.map Prod.snd) := by
    rw [List.map_append, List.map_singleton, gArcs_snoc, if_neg (by rw [hpl]; simp), List.append_nil]
  obtain ⟨⟨u, h1, h2⟩, h3, h4, h5, h6, h7⟩ := hi
  exact ⟨⟨u, h1, by rw [e]; exact h2⟩, h3, h4, h5, h6, h7⟩

theorem arc_new (W : World) (a : Int × Int × Int) : ∀ j u, (encA a)[j]? = some u → (W.alloc (.cells #[.int .i64 a.1, .int .i64 a.2.1, .int .i64 a.2.2] 49)).cell? ((⟨W.heap.size, 0, none⟩ : Addr).add j) = some u := fun j u hj => by
  have hh := heap_newW W (.cells #[.int .i64 a.1, .int .i64 a.2.1, .int .i64 a.2.2] 49)
  generalize W.alloc (.cells #[.int .i64 a.1, .int .i64 a.2.1, .int .i64 a.2.2] 49) = W' at hh
  have e : (⟨W.heap.size, 0, none⟩ : Addr).add j = ⟨W.heap.size, j, none⟩ := by
    by_cases h0 : j = 0
    · subst h0; rfl
    · simp [Addr.add, h0]
  rw [e]
  have g : (#[Value.int .i64 a.1, .int .i64 a.2.1, .int .i64 a.2.2] : Array Value)[j]? = some u := by rw [← Array.getElem?_toList]; exact hj
  simp [World.cell?, hh, g]
theorem arc_one (a : Int × Int × Int) : ∀ u ∈ encA a, u.oneCell' = true := by
  intro u hu
  simp [encA] at hu
  rcases hu with rfl | rfl | rfl <;> rfl

theorem arcs_far {w w' : World} {lo : Option Addr} {k c : Nat} {L : List (Int × Int × Int)} (h : HasArcs w (.slice lo k c) L) (hs : w.heap.size ≤ w'.heap.size) (hb : ∀ a, lo = some a → w'.heap[a.block]? = w.heap[a.block]?) : HasArcs w' (.slice lo k c) L := by
  obtain ⟨ao, cap, e, hc⟩ := h
  refine ⟨ao, cap, e, fun j a hj => ?_⟩
  obtain ⟨b, off, ea, hl, h0, h1, h2⟩ := hc j a hj
  injection e with e1 e2 e3
  have hh := hb _ (e1.trans ea)
  have key : ∀ o, w'.cell? ⟨b, o, none⟩ = w.cell? ⟨b, o, none⟩ := fun o => World.cell?_of_block (w := w) (w' := w') (a := ⟨b, o, none⟩) hh
  exact ⟨b, off, ea, Nat.lt_of_lt_of_le hl hs, (key _).trans h0, (key _).trans h1, (key _).trans h2⟩
theorem arcs_holds {w : World} {b cap : Nat} {d : Array (Int × Int × Int)} (h : HoldsK encA 3 w b 0 d) (hb : b < w.heap.size) : HasArcs w (.slice (some ⟨b, 0, none⟩) d.size cap) d.toList := by
  refine ⟨some ⟨b, 0, none⟩, cap, by simp, fun j a hj => ?_⟩
  have hlt : j < d.size := by have := (List.getElem?_eq_some_iff.1 hj).1; simpa using this
  obtain ⟨⟨c0, c1, c2⟩, _⟩ := holds_at h j hlt
  have e : d[j]! = a := by
    have := (List.getElem?_eq_some_iff.1 hj).2
    simp [hlt]
    simpa using this
  rw [e] at c0 c1 c2
  exact ⟨b, 0, rfl, hb, c0, c1, c2⟩
theorem sortE_nil : sortE [] = [] := List.eq_nil_of_length_eq_zero (by rw [sortE_len]; rfl)
/-- a row of one's own, sorted. -/
theorem sort_own {w : World} {B : Nat} {u : Value} {L : List (Int × Int × Int)} (h : w.ownsRow B 49 3 u L.length (flatA L)) (hl : L.length ≤ 1048576) :
    ∃ lo c, u = .slice lo L.length c ∧ (∀ a, lo = some a → B ≤ a.block ∧ ∃ cur, w.heap[a.block]? = some (.cells cur 49)) ∧ Calls Try.prog 30 #[u, .func (.func 31) #[] #[]] w fun e w' => e = .returned (.tuple #[]) ∧ HasArcs w' u (sortE L) ∧ w.heap.size ≤ w'.heap.size ∧ w'.os = w.os ∧ w'.tape = w.tape ∧ w'.output = w.output ∧ ∀ k, k < w.heap.size → (∀ a, lo = some a → a.block ≠ k) → w'.heap[k]? = w.heap[k]? := by
  rcases h.2 with ⟨rfl, h0⟩ | ⟨g, cap, cur, rfl, hb, hh, hcap, _⟩
  · have : L = [] := List.eq_nil_of_length_eq_zero h0
    subst this
    refine ⟨none, 0, rfl, fun a e => (by cases e), (sort_nil w).mono ?_⟩
    rintro e w' ⟨rfl, hb⟩
    exact ⟨rfl, by rw [sortE_nil]; exact ⟨none, 0, rfl, fun j a hj => by simp at hj⟩, hb.size, hb.os, hb.tape, hb.output, fun k hk _ => hb.block _ hk⟩
  · refine ⟨_, cap, rfl, fun a e => by cases e; exact ⟨hb, cur, hh⟩, ?_⟩
    have hH := holds_of_row rfl h
    have := sortG_calls g cap L.toArray w hH (some_lt hh) (by simp; omega)
    simp only [List.size_toArray] at this
    refine this.mono ?_
    rintro e w' ⟨rfl, hH', ht⟩
    refine ⟨rfl, ?_, ht.size, ht.os, ht.tape, ht.output, fun k hk hn => ht.block _ hk (fun e => hn _ rfl e.symm)⟩
    have ha := arcs_holds (cap := cap) hH' (Nat.lt_of_lt_of_le (some_lt hh) ht.size)
    have hsz : (pdq (ltOf endsI) L.toArray 0 L.length (Lib.bitLen L.length) true true).size = L.length := by
      have := sortE_len L
      unfold sortE at this
      simpa using this
    rw [hsz] at ha
    unfold sortE
    simpa using ha
theorem set_two {W : World} {b : Nat} {p q : Value} {T : TypeId} (h : W.heap[b]? = some (.cells #[p, q] T)) (x y : Value) : ((W.setCell ⟨b, 0, none⟩ x).setCell ⟨b, 1, none⟩ y).heap[b]? = some (.cells #[x, y] T) := by
  have hlt := some_lt h
  simp only [World.setCell, Array.getElem?_modify]
  simp [h]
theorem graph_res {W : World} {z : Nat} {N : Int} {lv : Value} {tmps : Array Value} (h1 : W.heap[z + 1]? = some (.cells #[.int .i64 N, lv] 35)) (t2 : tmps[2]?.getD undef = .pointer (some ⟨z + 1, 0, none⟩)) :
    (results Try.f8 tmps).run Try.prog W = .ok (.tuple #[.agg #[.int .i64 N, lv], tmps[3]?.getD undef]) W := by
  have c1 : W.cell? ⟨z + 1, 0, none⟩ = some (.int .i64 N) := by simp [World.cell?, h1]
  have c2 : W.cell? ⟨z + 1, 1, none⟩ = some lv := by simp [World.cell?, h1]
  simp [results, Try.results8, go_sem, t2, c1, c2]

set_option maxRecDepth 100000 in
set_option maxHeartbeats 8000000 in
theorem graph_calls (v : HV) (h : Hr) (w : World) (hH : HasH w v h) (hb1 : h.up.length ≤ 1152921504606846976) (hb2 : h.dn.length ≤ 1152921504606846976) (hb3 : h.node.length ≤ 1152921504606846976) :
    Calls Try.prog 8 #[hvl v h] w fun e w' => ∃ N lo k c u L, e = .returned (.tuple #[.agg #[.int .i64 N, .slice lo k c], u]) ∧ Below w.heap.size w w' ∧ HasArcs w' (.slice lo k c) L ∧
      ((chk h = (0, []) ∧ N = (h.node.length : Int) ∧ L = sortE (gArcs h (stds h)) ∧ u = .nilIface) ∨ (chk h ≠ (0, []) ∧ N = 0 ∧ L = [] ∧ IsTold w' (chk h) u)) := by
  refine (callsIn_wide (n := 5)).1 (callsIn_of_wp_marks Try.func8 rfl trivial (wpIn_wide.2 (wp_quiet ?_)) rfl)
  obtain ⟨z, hz⟩ : ∃ z, w.heap.size = z := ⟨_, rfl⟩
  have HZ : Hid (w.heap.size = z) := hz
  have HH : Hid (HasH w v h) := hH
  obtain ⟨W0, hW0⟩ : ∃ W0, (w.alloc (.cells (cellsH v h) 25)).alloc (.cells #[.int .i64 0, .slice none 0 0] 35) = W0 := ⟨_, rfl⟩
  have hE0 : W0.heap[z]? = some (.cells (cellsH v h) 25) ∧ W0.heap[z + 1]? = some (.cells #[.int .i64 0, .slice none 0 0] 35) ∧ Below z w W0 := by
    rw [← hW0, ← hz]
    refine ⟨(Below.heap_alloc _ _ _ (by simp)).trans (heap_newW _ _), ?_, ((Below.refl _ _).alloc (Nat.le_refl _) _).alloc (by simp) _⟩
    have g := heap_newW (w.alloc (.cells (cellsH v h) 25)) (.cells #[.int .i64 0, .slice none 0 0] 35)
    rw [World.size_alloc] at g
    exact g
  have hs0 : W0.heap.size = z + 1 + 1 := by rw [← hW0]; simp [hz]
  have HW0 : Hid ((w.alloc (.cells (cellsH v h) 25)).alloc (.cells #[.int .i64 0, .slice none 0 0] 35) = W0) := hW0
  have HE0 : Hid (W0.heap[z]? = some (.cells (cellsH v h) 25) ∧ W0.heap[z + 1]? = some (.cells #[.int .i64 0, .slice none 0 0] 35) ∧ Below z w W0) := hE0
  have HCK : Hid (Calls Try.prog 19 #[hvl v h] W0 fun e w' => ∃ u, e = .returned u ∧ IsTold w' (chk h) u ∧ Below W0.heap.size W0 w') := check_calls v h W0 (hH.keep (by rw [hz]; exact hE0.2.2)) hb1 hb2 hb3
  obtain ⟨c0, c1, c2, c3, c4⟩ := five_cells hE0.1
  clear hW0 hE0 hH
  unfold hvl at HCK ⊢
  unfold cellsH at HW0
  simp only [List.size_toArray, List.length_cons, List.length_nil, Try.ntmps8, Nat.reduceAdd, Nat.reduceSub, Array.replicate_succ, Array.replicate_zero, List.push_toArray, List.append_toArray, List.nil_append, List.cons_append]
  go_upto_region 1 with fail
  rw [HW0.out]
  by_cases hck : chk h = (0, [])
  · obtain ⟨k1, k2, k3, k4, k5, k6, k7, k8⟩ := chk_ok hck
    have HK : Hid (h.node.length ≤ 65536 ∧ h.up.length + h.dn.length ≤ 1048576 ∧ h.upF.length = h.node.length + 1 ∧ h.dnF.length = h.node.length + 1 ∧ FOk h.upF h.up.length ∧ FOk h.dnF h.dn.length) := ⟨k1, k2, k3, k4, k5, k6⟩
    have HCL : Hid (cl h.node.length (stds h) = (0, [])) := k8
    have HC : Hid (chk h = (0, [])) := hck
    rw [hck] at HCK
    clear hck k1 k2 k3 k4 k5 k6 k7 k8
    go_wp2_with (first | (go_at_call 19; refine HCK.out.mono ?_; rintro e w1 ⟨u, rfl, htu, hbu⟩; have hu0 := isTold_nil htu; subst hu0; have HE1 : Hid ((w1.heap[z]? = some (.cells (cellsH v h) 25) ∧ w1.heap[z + 1]? = some (.cells #[.int .i64 0, .slice none 0 0] 35) ∧ Below z w w1) ∧ z + 1 < w1.heap.size) := ⟨⟨(hbu.block _ (by omega)).trans HE0.out.1, (hbu.block _ (by omega)).trans HE0.out.2.1, HE0.out.2.2.trans (hbu.mono (by omega))⟩, by have := hbu.size; omega⟩; obtain ⟨k0, k1, k2, k3, k4⟩ := five_cells HE1.out.1.1; have hz1 : z < w1.heap.size := (by have := HE1.out.2; omega); clear htu hbu) | (go_at_call 26; refine (links_calls v h _).mono ?_; rintro e w' ⟨rfl, rfl⟩))
    obtain ⟨y, hy⟩ : ∃ y, w1.heap.size = y := ⟨_, rfl⟩
    have hyz : z + 1 < y := by have := HE1.out.2; omega
    have hI0 : GRI w v h z y [] ((w1.alloc (.cells #[.slice none 0 0] 33)).alloc (.cells (cellsH v h) 25)) := by
      have hb : Below w1.heap.size w1 ((w1.alloc (.cells #[.slice none 0 0] 33)).alloc (.cells (cellsH v h) 25)) := ((Below.refl _ _).alloc (Nat.le_refl _) _).alloc (by simp) _
      refine ⟨⟨.slice none 0 0, ?_, World.ownsRow_nil _ _ _ _⟩, (hb.block _ (by omega)).trans HE1.out.1.2.1, (hb.block _ (by omega)).trans HE1.out.1.1, ?_, HE1.out.1.2.2.trans (hb.mono (by omega)), by simp; omega⟩
      · have g := (Boxed.new w1 33 (.slice none 0 0)).alloc (.cells (cellsH v h) 25)
        rw [hy] at g
        exact g
      · have g := heap_newW (w1.alloc (.cells #[.slice none 0 0] 33)) (.cells (cellsH v h) 25)
        rw [World.size_alloc, hy] at g
        exact g
    have hs1 : ((w1.alloc (.cells #[.slice none 0 0] 33)).alloc (.cells (cellsH v h) 25)).heap.size = y + 1 + 1 := by simp [hy]
    generalize (w1.alloc (.cells #[.slice none 0 0] 33)).alloc (.cells (cellsH v h) 25) = W2 at *
    rw [hy]
    clear hy c0 c1 c2 c3 c4 k0 k1 k2 k3 k4
    have HSO : Hid (∀ s ∈ stds h, s.ok) := stds_ok HK.out.2.2.2.2.1 HK.out.2.2.2.2.2 (by have := HK.out.2.2.1; have := HK.out.1; omega) (by have := HK.out.2.2.2.1; have := HK.out.1; omega) HH.out.up.ok HH.out.dn.ok
    have HSL : Hid ((stds h).length ≤ 1048576) := by show _ ≤ _; rw [stds_len HK.out.2.2.2.2.1 HK.out.2.2.2.2.2]; exact HK.out.2.1
    have HI : AbT TnI W2.heap.size (fun (p : List (Nat × Sd)) Wc => GRI w v h z y p Wc) := by
      rw [hs1]; exact fun s A C hs ht => hs.turn hyz ht
    obtain ⟨i0, hi9, hzz⟩ := Option.map_eq_some_iff.1 Try.info51
    simp only [Prod.mk.injEq] at hzz
    obtain ⟨hz0, hz1', hz2⟩ := hzz
    refine (wpIn_wide (n := 5)).1 ?_
    refine wp_over (xs := numd 0 (stds h)) rfl (fun h => (by cases h)) (gf := 47) (lb := #[.pointer (some ⟨y + 1, 0, none⟩)]) rfl trivial (enters_of Try.func47 (by kernel_rfl) rfl)
      (links1_seq _ (y + 1) v h HK.out.2.2.2.2.1 HK.out.2.2.2.2.2 (by have := HK.out.2.2.1; have := HK.out.1; omega) (by have := HK.out.2.2.2.1; have := HK.out.1; omega) (by have := HK.out.2.1; omega) (by have := HK.out.2.1; omega) (y + 1 + 1) (by omega)) (by rw [hs1]; exact Nat.le_refl _) (fun _ => Or.inl rfl) (fun _ => Or.inl rfl) (fun _ => rfl) _ (fun _ _ => False) HI (fun _ _ _ h _ => h) (fun pre Wc hi => ⟨hi.bh, HH.out.keep (by rw [HZ.out]; exact hi.bl)⟩) hI0
      (fun x a' Wc => ∃ Bx, Wc.heap[Bx]? = some (.cells (sixC x.2) 73) ∧ a' = { tmps := #[.agg #[.slice v.no h.node.length v.nc, .slice v.uo h.upF.length v.uc, .slice v.ul h.up.length v.ulc, .slice v.wo h.dnF.length v.wc, .slice v.dl h.dn.length v.dlc], .pointer (some ⟨z, 0, none⟩), .pointer (some ⟨z + 1, 0, none⟩), .nilIface, .nilIface, .pointer (some ⟨y, 0, none⟩), undef, .pointer (some ⟨Bx, 0, none⟩), undef, undef, .agg #[.slice v.no h.node.length v.nc, .slice v.uo h.upF.length v.uc, .slice v.ul h.up.length v.ulc, .slice v.wo h.dnF.length v.wc, .slice v.dl h.dn.length v.dlc], .nilIface, .nilIface, .bool false, undef, undef, .agg #[.slice v.no h.node.length v.nc, .slice v.uo h.upF.length v.uc, .slice v.ul h.up.length v.ulc, .slice v.wo h.dnF.length v.wc, .slice v.dl h.dn.length v.dlc], .func (.func 47) #[] #[.pointer (some ⟨y + 1, 0, none⟩)], .int .i64 (x.1 : Int), svl x.2, undef, undef, undef, undef, undef, undef, undef, undef, undef, undef, undef, undef, undef, undef, undef, undef, undef, undef, undef, undef, undef, undef, undef, undef, undef, undef, undef, undef, undef, undef, undef, undef, undef, undef], defers := [] })
      (fun x a' _ A C hs ht => by obtain ⟨Bx, h1, h2⟩ := hs; exact ⟨Bx, ht.same _ _ h1 not_TnI_stand, h2⟩) ?assign ?body ?done (fun _ _ _ _ _ h _ => h.elim)
    case assign =>
      rintro l2 pre x Wc K hi hp hK
      have HHI : Hid (GRI w v h z y pre Wc) := hi
      clear hi
      obtain ⟨k, ⟨⟨hd, wt, lf, rt⟩, rk, up⟩⟩ := x
      dsimp only [encS, svl]
      gi_wp2
      exact hK _ _ ((KeepsT.refl _ _ _).alloc _) (HHI.out.turn hyz ((Turn.refl _ _ _).alloc HHI.out.sz _)) ⟨Wc.heap.size, heap_newW _ _, rfl⟩
    case body =>
      rintro l2 pre x a' Wc hl2 hi ⟨Bx, bX, rfl⟩ hp
      obtain ⟨aa, s, rfl, rfl, hpp⟩ := numd_prefix hp
      have hmem : s ∈ stds h := by
        obtain ⟨t, ht⟩ := hpp
        rw [← ht]
        simp
      have hsok := HSO.out s hmem
      obtain ⟨ft, fh, _, fw⟩ := form_mem HCL.out hmem
      have hal : aa.length < 1048576 := by have := hpp.length_le; have := HSL.out; simp at *; omega
      have HHI : Hid (GRI w v h z y (numd 0 aa) Wc) := hi
      obtain ⟨g3, g4, g5, g6, g7, g8⟩ := six_of bX
      have hBs := some_lt bX
      have hzs := some_lt hi.bx
      obtain ⟨nb, nof, en, hnb, hnc⟩ := (HH.out.keep (w' := Wc) (by rw [HZ.out]; exact hi.bl)).node.cells (by omega)
      have ct := hnc s.tail ft
      have ch := hnc s.head fh
      have s1 := HH.out.node.small s.tail
      have s2 := HH.out.node.small s.head
      have cz := (five_cells hi.bx).1
      rw [en] at cz
      have HK2 : Hid (∀ wx, Below Wc.heap.size Wc wx → wx.cell? ⟨z, 0, none⟩ = some (.slice (some ⟨nb, nof, none⟩) h.node.length v.nc) ∧ (wx.cell? ⟨Bx, 0, none⟩ = some (.int .u32 (s.lk.hd : Int)) ∧ wx.cell? ⟨Bx, 1, none⟩ = some (.int .u64 (s.lk.wt : Int)) ∧ wx.cell? ⟨Bx, 2, none⟩ = some (.int .u32 (s.lk.lf : Int)) ∧ wx.cell? ⟨Bx, 3, none⟩ = some (.int .u32 (s.lk.rt : Int)) ∧ wx.cell? ⟨Bx, 4, none⟩ = some (.int .u32 (s.rk : Int)) ∧ wx.cell? ⟨Bx, 5, none⟩ = some (.bool s.up)) ∧ wx.cell? ⟨nb, nof + s.tail, none⟩ = some (.int .u32 (nth h.node s.tail : Int)) ∧ wx.cell? ⟨nb, nof + s.head, none⟩ = some (.int .u32 (nth h.node s.head : Int))) := fun wx hx => ⟨(hx.cell (p := ⟨z, 0, none⟩) hzs).trans cz, ⟨(hx.cell (p := ⟨Bx, 0, none⟩) hBs).trans g3, (hx.cell (p := ⟨Bx, 1, none⟩) hBs).trans g4, (hx.cell (p := ⟨Bx, 2, none⟩) hBs).trans g5, (hx.cell (p := ⟨Bx, 3, none⟩) hBs).trans g6, (hx.cell (p := ⟨Bx, 4, none⟩) hBs).trans g7, (hx.cell (p := ⟨Bx, 5, none⟩) hBs).trans g8⟩, (hx.cell (p := ⟨nb, _, none⟩) hnb).trans ct, (hx.cell (p := ⟨nb, _, none⟩) hnb).trans ch⟩
      have HT1 : Hid (∀ wx, Below Wc.heap.size Wc wx → Calls Try.prog 28 #[.agg #[.int .u32 (s.lk.hd : Int), .int .u64 (s.lk.wt : Int), .int .u32 (s.lk.lf : Int), .int .u32 (s.lk.rt : Int), .int .u32 (s.rk : Int), .bool s.up]] wx fun e w' => e = .returned (.int .u32 (s.tail : Int)) ∧ Below Wc.heap.size Wc w') := fun wx hx => (tail_calls s wx).mono fun e w' ⟨q1, q2⟩ => ⟨q1, hx.trans (q2.mono hx.size)⟩
      have HT2 : Hid (∀ wx, Below Wc.heap.size Wc wx → Calls Try.prog 29 #[.agg #[.int .u32 (s.lk.hd : Int), .int .u64 (s.lk.wt : Int), .int .u32 (s.lk.lf : Int), .int .u32 (s.lk.rt : Int), .int .u32 (s.rk : Int), .bool s.up]] wx fun e w' => e = .returned (.int .u32 (s.head : Int)) ∧ Below Wc.heap.size Wc w') := fun wx hx => (head_calls s wx).mono fun e w' ⟨q1, q2⟩ => ⟨q1, hx.trans (q2.mono hx.size)⟩
      have HPL : Hid (∀ m wx, Below Wc.heap.size Wc wx → CallsIn (Fence.wide.inRound l2) m Try.prog 27 #[.agg #[.int .u32 (s.lk.hd : Int), .int .u64 (s.lk.wt : Int), .int .u32 (s.lk.lf : Int), .int .u32 (s.lk.rt : Int)]] wx fun e w' => e = .returned (.bool s.lk.plain) ∧ Below Wc.heap.size Wc w') := fun m wx hx => CallsIn.inRound l2 (callsIn_wide.2 ((plain_calls s.lk wx).mono fun e w' ⟨q1, q2⟩ => ⟨q1, hx.trans (q2.mono hx.size)⟩))
      have v1 : IntKind.i64.wrap (nth h.node s.tail : Int) = (nth h.node s.tail : Int) := by rw [IntKind.wrap_i64]; omega
      have v2 : IntKind.i64.wrap (nth h.node s.head : Int) = (nth h.node s.head : Int) := by rw [IntKind.wrap_i64]; omega
      have i1 : (s.tail : Int) < (h.node.length : Int) := by omega
      have i2 : (s.head : Int) < (h.node.length : Int) := by omega
      have HLN : Hid (aa.length < 1048576 ∧ (numd 0 aa).map Prod.snd = aa) := ⟨hal, numd_map 0 aa⟩
      clear hi bX hsok hpp hp hnc hmem
      dsimp only [svl]
      obtain ⟨pl, hpl⟩ : ∃ pl, s.lk.plain = pl := ⟨_, rfl⟩
      rw [hpl] at HPL
      have HPP : Hid (s.lk.plain = pl) := hpl
      clear hpl
      cases pl
      · gi_wp2_with (refine ⟨trivial, ?_⟩; (with_reducible refine (HPL.out _ _ (Below.refl _ _)).mono ?_); rintro e wp ⟨rfl, hbp⟩; have HBP : Hid (Below Wc.heap.size Wc wp) := hbp; clear hbp)
        exact ⟨keepsT_below HBP.out, gri_skip HPP.out (HHI.out.below hyz HBP.out)⟩
      · have hwt := fw HPP.out
        have v3 : IntKind.i64.wrap (s.lk.wt : Int) = (s.lk.wt : Int) := by rw [IntKind.wrap_i64]; omega
        gi_wp2_with (refine ⟨trivial, ?_⟩; (with_reducible refine (HPL.out _ _ (Below.refl _ _)).mono ?_); rintro e wp ⟨rfl, hbp⟩)
        · refine region_round (S := fun w' => w'.cell? ⟨z, 0, none⟩ = some (.slice (some ⟨nb, nof, none⟩) h.node.length v.nc) ∧ (w'.cell? ⟨Bx, 0, none⟩ = some (.int .u32 (s.lk.hd : Int)) ∧ w'.cell? ⟨Bx, 1, none⟩ = some (.int .u64 (s.lk.wt : Int)) ∧ w'.cell? ⟨Bx, 2, none⟩ = some (.int .u32 (s.lk.lf : Int)) ∧ w'.cell? ⟨Bx, 3, none⟩ = some (.int .u32 (s.lk.rt : Int)) ∧ w'.cell? ⟨Bx, 4, none⟩ = some (.int .u32 (s.rk : Int)) ∧ w'.cell? ⟨Bx, 5, none⟩ = some (.bool s.up)) ∧ w'.cell? ⟨nb, nof + s.tail, none⟩ = some (.int .u32 (nth h.node s.tail : Int)) ∧ w'.cell? ⟨nb, nof + s.head, none⟩ = some (.int .u32 (nth h.node s.head : Int))) (by kernel_rfl) (by kernel_rfl) (fun ⟨_, _, g⟩ => g) (HK2.out _ (hbp.drew)) (fun hHeld => ?_)
          refine wpAnyH_take (i := 0) (oi := { dst := some 23, op := Op.fieldAddr 25 (Operand.tmp 1) 0, type := 0, pos := "hier.go:32", after := #[], guard := none }) (v := ?vg0) rfl (by kernel_rfl) (by kernel_rfl) (by kernel_rfl) (fun _ _ _ h => h) (Or.inl ⟨by rfl, ?hg0⟩) (by assumption) ?rg0
          case hg0 => ((intro wz hSw; (try dsimp only at hSw); go_simp); try (with_reducible rfl))
          simp only [Act.put, List.setIfInBounds_toArray, List.set_cons_zero, List.set_cons_succ]
          refine wpAnyH_take (i := 1) (oi := { dst := some 24, op := Op.load 22 (Operand.tmp 23), type := 22, pos := "hier.go:32", after := #[{ on := 0, ground := Ground.data }], guard := none }) (v := ?vg1) rfl (by kernel_rfl) (by kernel_rfl) (by kernel_rfl) (fun _ _ _ h => h) (Or.inl ⟨by rfl, ?hg1⟩) (by assumption) ?rg1
          case hg1 => ((intro wz hSw; (try dsimp only at hSw); go_simp); try (with_reducible rfl))
          simp only [Act.put, List.setIfInBounds_toArray, List.set_cons_zero, List.set_cons_succ]
          refine wpAnyH_take (i := 2) (oi := { dst := some 25, op := Op.load 73 (Operand.tmp 7), type := 73, pos := "hier.go:32", after := #[], guard := none }) (v := ?vg2) rfl (by kernel_rfl) (by kernel_rfl) (by kernel_rfl) (fun _ _ _ h => h) (Or.inl ⟨by rfl, ?hg2⟩) (by assumption) ?rg2
          case hg2 => ((intro wz hSw; (try dsimp only at hSw); go_simp); try (with_reducible rfl))
          simp only [Act.put, List.setIfInBounds_toArray, List.set_cons_zero, List.set_cons_succ]
          refine wpAnyH_take (i := 6) (oi := { dst := some 29, op := Op.fieldAddr 25 (Operand.tmp 1) 0, type := 0, pos := "hier.go:32", after := #[{ on := 12, ground := Ground.gcOnly Departure.lateStores }], guard := none }) (v := ?vg6) rfl (by kernel_rfl) (by kernel_rfl) (by kernel_rfl) (fun _ _ _ h => h) (Or.inl ⟨by rfl, ?hg6⟩) (by assumption) ?rg6
          case hg6 => ((intro wz hSw; (try dsimp only at hSw); go_simp); try (with_reducible rfl))
          simp only [Act.put, List.setIfInBounds_toArray, List.set_cons_zero, List.set_cons_succ]
          refine wpAnyH_take (i := 7) (oi := { dst := some 30, op := Op.load 22 (Operand.tmp 29), type := 22, pos := "hier.go:32", after := #[{ on := 6, ground := Ground.data }, { on := 12, ground := Ground.gcOnly Departure.lateStores }], guard := none }) (v := ?vg7) rfl (by kernel_rfl) (by kernel_rfl) (by kernel_rfl) (fun _ _ _ h => h) (Or.inl ⟨by rfl, ?hg7⟩) (by assumption) ?rg7
          case hg7 => ((intro wz hSw; (try dsimp only at hSw); go_simp); try (with_reducible rfl))
          simp only [Act.put, List.setIfInBounds_toArray, List.set_cons_zero, List.set_cons_succ]
          refine wpAnyH_take (i := 8) (oi := { dst := some 31, op := Op.load 73 (Operand.tmp 7), type := 73, pos := "hier.go:32", after := #[], guard := none }) (v := ?vg8) rfl (by kernel_rfl) (by kernel_rfl) (by kernel_rfl) (fun _ _ _ h => h) (Or.inl ⟨by rfl, ?hg8⟩) (by assumption) ?rg8
          case hg8 => ((intro wz hSw; (try dsimp only at hSw); go_simp); try (with_reducible rfl))
          simp only [Act.put, List.setIfInBounds_toArray, List.set_cons_zero, List.set_cons_succ]
          refine wpAnyH_ready (rs := [3]) (by kernel_rfl) (by simp) ?_
          refine AllReadyH.cons (o := { dst := some 26, op := Op.call { callee := Callee.value (Operand.func 28), args := #[Operand.tmp 25], argTypes := #[73] }, type := 43, pos := "hier.go:32", after := #[{ on := 2, ground := Ground.data }], guard := none }) rfl (fun K hK => ?_) AllReadyH.nil
          go_simp
          go_at_call 28
          refine (HT1.out _ hbp.drew).mono ?_
          rintro e wt ⟨rfl, hbt⟩
          go_wp2_with fail
          refine hK.out _ _ (HK2.out _ hbt) (fun hHeld1 => ?_)
          clear hK K hHeld
          refine wpAnyH_take (i := 4) (oi := { dst := some 27, op := Op.indexAddr 22 (Operand.tmp 24) (Operand.tmp 26), type := 0, pos := "hier.go:32", after := #[{ on := 1, ground := Ground.data }, { on := 3, ground := Ground.data }], guard := none }) (v := ?vg4) rfl (by kernel_rfl) (by kernel_rfl) (by kernel_rfl) (fun _ _ _ h => h) (Or.inl ⟨by rfl, ?hg4⟩) (by assumption) ?rg4
          case hg4 => ((intro wz hSw; (try dsimp only at hSw); go_simp); try (with_reducible rfl))
          simp only [Act.put, List.setIfInBounds_toArray, List.set_cons_zero, List.set_cons_succ]
          refine wpAnyH_take (i := 5) (oi := { dst := some 28, op := Op.load 43 (Operand.tmp 27), type := 43, pos := "hier.go:32", after := #[{ on := 4, ground := Ground.data }], guard := none }) (v := ?vg5) rfl (by kernel_rfl) (by kernel_rfl) (by kernel_rfl) (fun _ _ _ h => h) (Or.inl ⟨by rfl, ?hg5⟩) (by assumption) ?rg5
          case hg5 => ((intro wz hSw; (try dsimp only at hSw); go_simp); try (with_reducible rfl))
          simp only [Act.put, List.setIfInBounds_toArray, List.set_cons_zero, List.set_cons_succ]
          refine wpAnyH_ready (rs := [9]) (by kernel_rfl) (by simp) ?_
          refine AllReadyH.cons (o := { dst := some 32, op := Op.call { callee := Callee.value (Operand.func 29), args := #[Operand.tmp 31], argTypes := #[73] }, type := 43, pos := "hier.go:32", after := #[{ on := 8, ground := Ground.data }, { on := 3, ground := Ground.chain }], guard := none }) rfl (fun K hK => ?_) AllReadyH.nil
          go_simp
          go_at_call 29
          refine (HT2.out _ hbt).mono ?_
          rintro e wh ⟨rfl, hbh⟩
          go_wp2_with fail
          refine hK.out _ _ (HK2.out _ hbh) (fun hHeld2 => ?_)
          clear hK K hHeld1
          refine wpAnyH_take (i := 10) (oi := { dst := some 33, op := Op.indexAddr 22 (Operand.tmp 30) (Operand.tmp 32), type := 0, pos := "hier.go:32", after := #[{ on := 7, ground := Ground.data }, { on := 9, ground := Ground.data }, { on := 12, ground := Ground.gcOnly Departure.lateStores }], guard := none }) (v := ?vg10) rfl (by kernel_rfl) (by kernel_rfl) (by kernel_rfl) (fun _ _ _ h => h) (Or.inl ⟨by rfl, ?hg10⟩) (by assumption) ?rg10
          case hg10 => ((intro wz hSw; (try dsimp only at hSw); go_simp); try (with_reducible rfl))
          simp only [Act.put, List.setIfInBounds_toArray, List.set_cons_zero, List.set_cons_succ]
          refine wpAnyH_take (i := 11) (oi := { dst := some 34, op := Op.load 43 (Operand.tmp 33), type := 43, pos := "hier.go:32", after := #[{ on := 10, ground := Ground.data }, { on := 12, ground := Ground.gcOnly Departure.lateStores }], guard := none }) (v := ?vg11) rfl (by kernel_rfl) (by kernel_rfl) (by kernel_rfl) (fun _ _ _ h => h) (Or.inl ⟨by rfl, ?hg11⟩) (by assumption) ?rg11
          case hg11 => ((intro wz hSw; (try dsimp only at hSw); go_simp); try (with_reducible rfl))
          simp only [Act.put, List.setIfInBounds_toArray, List.set_cons_zero, List.set_cons_succ]
          refine wpAnyH_take (i := 12) (oi := { dst := some 8, op := Op.assign (Operand.tmp 28), type := 43, pos := "hier.go:32", after := #[{ on := 5, ground := Ground.data }, { on := 9, ground := Ground.chain }, { on := 0, ground := Ground.phase }, { on := 1, ground := Ground.phase }, { on := 2, ground := Ground.phase }, { on := 3, ground := Ground.phase }, { on := 4, ground := Ground.phase }, { on := 5, ground := Ground.phase }, { on := 6, ground := Ground.textOnly Departure.lateStores }, { on := 7, ground := Ground.textOnly Departure.lateStores }, { on := 8, ground := Ground.textOnly Departure.lateStores }, { on := 9, ground := Ground.textOnly Departure.lateStoresUnsure }, { on := 10, ground := Ground.textOnly Departure.lateStores }, { on := 11, ground := Ground.textOnly Departure.lateStores }], guard := none }) (v := ?vg12) rfl (by kernel_rfl) (by kernel_rfl) (by kernel_rfl) (fun _ _ _ h => h) (Or.inl ⟨by rfl, ?hg12⟩) (by assumption) ?rg12
          case hg12 => ((intro wz hSw; (try dsimp only at hSw); go_simp); try (with_reducible rfl))
          simp only [Act.put, List.setIfInBounds_toArray, List.set_cons_zero, List.set_cons_succ]
          refine wpAnyH_take (i := 13) (oi := { dst := some 9, op := Op.assign (Operand.tmp 34), type := 43, pos := "hier.go:32", after := #[{ on := 11, ground := Ground.data }, { on := 12, ground := Ground.chain }, { on := 0, ground := Ground.phase }, { on := 1, ground := Ground.phase }, { on := 2, ground := Ground.phase }, { on := 3, ground := Ground.phase }, { on := 4, ground := Ground.phase }, { on := 5, ground := Ground.phase }, { on := 6, ground := Ground.phase }, { on := 7, ground := Ground.phase }, { on := 8, ground := Ground.phase }, { on := 9, ground := Ground.phase }, { on := 10, ground := Ground.phase }, { on := 11, ground := Ground.phase }, { on := 12, ground := Ground.phase }], guard := none }) (v := ?vg13) rfl (by kernel_rfl) (by kernel_rfl) (by kernel_rfl) (fun _ _ _ h => h) (Or.inl ⟨by rfl, ?hg13⟩) (by assumption) ?rg13
          case hg13 => ((intro wz hSw; (try dsimp only at hSw); go_simp); try (with_reducible rfl))
          simp only [Act.put, List.setIfInBounds_toArray, List.set_cons_zero, List.set_cons_succ]
          refine wpAnyH_done (by kernel_rfl) ?_ _
          have HBH : Hid (Below Wc.heap.size Wc wh) := hbh
          have HGI : Hid (GRI w v h z y (numd 0 aa) wh) := HHI.out.below hyz hbh
          obtain ⟨r0, ⟨r1, r2, r3, r4, r5, r6⟩, r7, r8⟩ := HK2.out wh hbh
          obtain ⟨u, hu, hr⟩ := HGI.out.row
          have hsz := HGI.out.sz
          have q1 := hu.cell
          have hgl : (gArcs h ((numd 0 aa).map Prod.snd)).length < 1048576 := by rw [HLN.out.2]; have := gArcs_len h aa; have := HLN.out.1; omega
          have HHU : Hid (Boxed wh y 33 u ∧ wh.ownsRow y 49 3 u (gArcs h ((numd 0 aa).map Prod.snd)).length (flatA (gArcs h ((numd 0 aa).map Prod.snd)))) := ⟨hu, hr⟩
          clear hHeld2 hbh hbt hbp hu g3 g4 g5 g6 g7 g8 ct ch cz
          gi_wp2_with (gi_at_builtin; refine wpListIn_append_own _ rfl _ _ 33 rfl y 49 i0 (.agg #[.int .i64 0, .int .i64 0, .int .i64 0]) 3 24 Try.underlying33 hi9 hz0 hz1' hz2 rfl (by decide) _ _ _ rfl (hr.alloc _) ⟨wh.heap.size, 0, none⟩ 1 1 (encA (arcOf h s)) rfl rfl (arc_new wh (arcOf h s)) (arc_one _) (by unfold maxLen; omega) (by omega) (by simp; omega) ?_; intro v' w9 hown' hgrow _; obtain ⟨g', cap', rfl⟩ := ownsRow_succ hown'; obtain ⟨p1, p2, p3⟩ := gri_step (x := (aa.length, s)) hyz HPP.out HGI.out HHU.out.1 HHU.out.2 hown' hgrow; have HQ : Hid (GRI w v h z y (numd 0 aa ++ [(aa.length, s)]) (w9.setCell ⟨y, 0, none⟩ (.slice (some ⟨g', 0, none⟩) ((gArcs h ((numd 0 aa).map Prod.snd)).length + 1) cap')) ∧ KeepsT TnI (y + 1 + 1) wh (w9.setCell ⟨y, 0, none⟩ (.slice (some ⟨g', 0, none⟩) ((gArcs h ((numd 0 aa).map Prod.snd)).length + 1) cap'))) := ⟨p2, p3⟩; have y1 := p1.cell; have y2 := p1.frozen; clear p1 p2 p3 hown' hgrow)
          exact ⟨(keepsT_below HBH.out).trans (by rw [hs1]; exact HQ.out.2), HQ.out.1⟩
    case done =>
      rintro D Wd hD hi hK
      rw [hs1] at hD
      obtain ⟨u, hu, hr⟩ := hi.row
      rw [numd_map] at hr
      obtain ⟨lo, c, hu0, hlo, hsort⟩ := sort_own hr (Nat.le_trans (gArcs_len h _) HSL.out)
      subst hu0
      have HS : Hid _ := hsort
      have HLO : Hid (∀ a, lo = some a → y ≤ a.block ∧ ∃ cur, Wd.heap[a.block]? = some (.cells cur 49)) := hlo
      have HGI : Hid (GRI w v h z y (numd 0 (stds h)) Wd) := hi
      have HKD : Hid (Wd.heap[D]? = some (.deferred (some []))) := hK
      have q1 := hu.cell
      obtain ⟨c0, c1, c2, c3, c4⟩ := five_cells hi.bx
      have HBY : Hid (Boxed Wd y 33 (.slice lo (gArcs h (stds h)).length c)) := hu
      obtain ⟨kk, hkk⟩ : ∃ kk, (gArcs h (stds h)).length = kk := ⟨_, rfl⟩
      rw [hkk] at q1 HS HBY
      have HSORT : Hid (Calls Try.prog 30 #[.slice lo kk c, .func (.func 31) #[] #[]] Wd fun e w' => e = .returned (.tuple #[]) ∧ Hid (HasArcs w' (.slice lo kk c) (sortE (gArcs h (stds h)))) ∧ (w'.heap[z]? = some (.cells (cellsH v h) 25) ∧ w'.heap[z + 1]? = some (.cells #[.int .i64 0, .slice none 0 0] 35) ∧ Boxed w' y 33 (.slice lo kk c) ∧ w'.heap[D]? = some (.deferred (some []))) ∧ Below z w w' ∧ Wd.heap.size ≤ w'.heap.size) := by
        refine Calls.mono HS.out ?_
        rintro e w' ⟨g1, g2, g3, g4, g5, g6, g7⟩
        have far : ∀ (k : Nat) (o : Obj), Wd.heap[k]? = some o → (∀ c, o ≠ .cells c 49) → w'.heap[k]? = some o := fun k o hk hn => (g7 k (some_lt hk) (fun a ha e => by obtain ⟨_, cur, hc⟩ := HLO.out a ha; rw [e, hk] at hc; cases hc; exact hn _ rfl)).trans hk
        refine ⟨g1, g2, ⟨far _ _ hi.bx (fun c e => by cases e), far _ _ hi.gx (fun c e => by cases e), far _ _ HBY.out (fun c e => by cases e), far _ _ hK (fun c e => by cases e)⟩, ⟨g4.trans hi.bl.os, g5.trans hi.bl.tape, g6.trans hi.bl.output, Nat.le_trans hi.bl.size g3, fun k hk => ?_⟩, g3⟩
        have := hi.sz
        exact (g7 k (by omega) (fun a ha e => by have := (HLO.out a ha).1; omega)).trans (hi.bl.block _ hk)
      have HKZ : Hid (∀ a, lo = some a → a.block ≠ z + 1 ∧ a.block ≠ D ∧ a.block < Wd.heap.size) := fun a ha => by
        obtain ⟨g1, cur, g2⟩ := HLO.out a ha
        exact ⟨by omega, fun e => (by rw [e, hK] at g2; cases g2), some_lt g2⟩
      clear hi hK hsort hu hr hlo hkk HI HS
      go_wp2_with (go_at_call 30; refine HSORT.out.mono ?_; rintro e w9 ⟨rfl, HA9, ⟨g1, g2, g3, g4⟩, g5, g6⟩; have H9 : Hid ((w9.heap[z]? = some (.cells (cellsH v h) 25) ∧ w9.heap[z + 1]? = some (.cells #[.int .i64 0, .slice none 0 0] 35) ∧ Boxed w9 y 33 (.slice lo kk c) ∧ w9.heap[D]? = some (.deferred (some []))) ∧ Below z w w9 ∧ Wd.heap.size ≤ w9.heap.size) := ⟨⟨g1, g2, g3, g4⟩, g5, g6⟩; have d0 := (five_cells g1).1; have d1 : w9.cell? ⟨z + 1, 0, none⟩ = some (.int .i64 0) := (by simp [World.cell?, g2]); have d2 : w9.cell? ⟨z + 1, 1, none⟩ = some (.slice none 0 0) := (by simp [World.cell?, g2]); have d3 := g3.cell; have d4 : w9.frozen? ⟨z + 1, 0, none⟩ = false := (by simp [World.frozen?, g2]); have d5 : w9.frozen? ⟨z + 1, 1, none⟩ = false := (by simp [World.frozen?, g2]); clear g1 g2 g3 g4 g5 g6)
      have f1 : ((w9.setCell ⟨z + 1, 0, none⟩ (.int .i64 (h.node.length : Int))).setCell ⟨z + 1, 1, none⟩ (.slice lo kk c)).heap[D]? = some (.deferred (some [])) := ((Below.heap_setCell _ _ _ _ (by show D ≠ z + 1; omega)).trans (Below.heap_setCell _ _ _ _ (by show D ≠ z + 1; omega))).trans H9.out.1.2.2.2
      have f2 : (((w9.setCell ⟨z + 1, 0, none⟩ (.int .i64 (h.node.length : Int))).setCell ⟨z + 1, 1, none⟩ (.slice lo kk c)).putObj D (.deferred none)).heap[z + 1]? = some (.cells #[.int .i64 (h.node.length : Int), .slice lo kk c] 35) := (World.putObj_heap_other (by omega)).trans (set_two H9.out.1.2.1 _ _)
      refine ⟨fun ch e => (by cases e), by simp, .inl ⟨_, _, rfl, run_takeDeferred f1, ?_⟩⟩
      refine ⟨_, graph_res f2 rfl, (h.node.length : Int), lo, kk, c, _, sortE (gArcs h (stds h)), rfl, ?_, ?_, Or.inl ⟨HC.out, rfl, rfl, rfl⟩⟩
      · rw [HZ.out]
        exact ((H9.out.2.1.setCell (p := ⟨z + 1, 0, none⟩) (by show z ≤ z + 1; omega) _).setCell (p := ⟨z + 1, 1, none⟩) (by show z ≤ z + 1; omega) _).trans ((Turn.refl TnC z _).putObj (by omega) f1 rfl _).below
      · refine arcs_far HA9.out (by simp [World.setCell]) (fun a ha => ?_)
        obtain ⟨g1, g2, _⟩ := HKZ.out a ha
        exact (World.putObj_heap_other g2).trans ((Below.heap_setCell _ _ _ _ g1).trans (Below.heap_setCell _ _ _ _ g1))
  · have HC : Hid (chk h ≠ (0, [])) := hck
    have HCK2 : Hid (Calls Try.prog 19 #[.agg #[.slice v.no h.node.length v.nc, .slice v.uo h.upF.length v.uc, .slice v.ul h.up.length v.ulc, .slice v.wo h.dnF.length v.wc, .slice v.dl h.dn.length v.dlc]] W0 fun e w' => ∃ t x, e = .returned (.iface t x) ∧ IsTold w' (chk h) (.iface t x) ∧ Below W0.heap.size W0 w') := HCK.out.mono fun e w' ⟨u, h1, h2, h3⟩ => by
      obtain ⟨t, x, e0, _⟩ := isTold_some h2 HC.out
      subst e0
      exact ⟨t, x, h1, h2, h3⟩
    clear HCK hck
    go_wp2_with (go_at_call 19; refine HCK2.out.mono ?_; rintro e w1 ⟨ut, ux, rfl, htu, hbu⟩; have HE1 : Hid (w1.heap[z + 1]? = some (.cells #[.int .i64 0, .slice none 0 0] 35) ∧ Below z w w1 ∧ IsTold w1 (chk h) (.iface ut ux)) := ⟨(hbu.block _ (by omega)).trans HE0.out.2.1, HE0.out.2.2.trans (hbu.mono (by omega)), htu⟩; have d1 : w1.cell? ⟨z + 1, 0, none⟩ = some (.int .i64 0) := (by simp [World.cell?, HE1.out.1]); have d2 : w1.cell? ⟨z + 1, 1, none⟩ = some (.slice none 0 0) := (by simp [World.cell?, HE1.out.1]); have d4 : w1.frozen? ⟨z + 1, 0, none⟩ = false := (by simp [World.frozen?, HE1.out.1]); have d5 : w1.frozen? ⟨z + 1, 1, none⟩ = false := (by simp [World.frozen?, HE1.out.1]); clear htu hbu)
    refine ⟨fun ch e => (by cases e), ?_⟩
    refine ⟨_, graph_res (set_two HE1.out.1 (.int .i64 0) (.slice none 0 0)) rfl, 0, none, 0, 0, _, [], rfl, ?_, ⟨none, 0, rfl, fun j a hj => by simp at hj⟩, Or.inr ⟨HC.out, rfl, rfl, ?_⟩⟩
    · rw [HZ.out]
      exact (HE1.out.2.1.setCell (p := ⟨z + 1, 0, none⟩) (by show z ≤ z + 1; omega) _).setCell (p := ⟨z + 1, 1, none⟩) (by show z ≤ z + 1; omega) _
    · refine HE1.out.2.2.keep (fun b c hb => ?_)
      have e1 : b ≠ z + 1 := fun e => by rw [e, HE1.out.1] at hb; cases hb
      exact ((Below.heap_setCell _ _ _ _ e1).trans (Below.heap_setCell _ _ _ _ e1)).trans hb
end Go.Proofs.Ytkehpmbnbknpfaa.Hi

namespace Go.Proofs.Ytkehpmbnbknpfaa.Hi
open Go.RowKit Go.Extern

attribute [local go_sem] Oper.semAt_some

set_option maxRecDepth 100000 in
set_option maxHeartbeats 1000000 in
theorem sameArcs_yes (av bv : Value) (xs : List (Int × Int × Int)) (w : World) (ha : HasArcs w av xs) (hb : HasArcs w bv xs) (hm : xs.length ≤ maxLen) :
    Calls Try.prog 42 #[av, bv] w fun e w' => e = .returned (.bool true) ∧ Below w.heap.size w w' := by
  unfold maxLen at hm
  obtain ⟨ao, cap, hlv⟩ : ∃ ao cap, av = .slice ao xs.length cap := by
    obtain ⟨ao, cap, e, _⟩ := ha
    exact ⟨ao, cap, e⟩
  obtain ⟨bo, cbp, hlb⟩ : ∃ bo cap, bv = .slice bo xs.length cap := by
    obtain ⟨ao, cap, e, _⟩ := hb
    exact ⟨ao, cap, e⟩
  subst hlv
  subst hlb
  have HA : Hid (HasArcs w (.slice ao xs.length cap) xs) := ha
  have HB : Hid (HasArcs w (.slice bo xs.length cbp) xs) := hb
  clear ha hb
  go_enter Try.func42, Try.ntmps42
  go_wp2_with fail
  go_loopw [13] (fun iv wr => ∃ k : Nat, k ≤ xs.length ∧ iv = .int .i64 k ∧ Below w.heap.size w wr) (fun iv _ => xs.length - (intOf iv).toNat)
  case atStart => exact ⟨0, Nat.zero_le _, rfl, Below.refl _ _⟩
  case round =>
    obtain ⟨k, hk, rfl, hbw⟩ := hrel
    by_cases hlt : k < xs.length
    · obtain ⟨p, hp⟩ : ∃ p, xs[k]? = some p := ⟨xs[k], List.getElem?_eq_getElem hlt⟩
      obtain ⟨b, off, hao, hl1, q0, q1, q2⟩ := HA.out.at hp
      obtain ⟨b', off', hbo, hl2, r0, r1, r2⟩ := HB.out.at hp
      subst hao
      subst hbo
      have a0 := (hbw.cell (p := ⟨b, off + k * 3, none⟩) hl1).trans q0
      have a1 := (hbw.cell (p := ⟨b, off + k * 3 + 1, none⟩) hl1).trans q1
      have a2 := (hbw.cell (p := ⟨b, off + k * 3 + 2, none⟩) hl1).trans q2
      have b0 := (hbw.cell (p := ⟨b', off' + k * 3, none⟩) hl2).trans r0
      have b1 := (hbw.cell (p := ⟨b', off' + k * 3 + 1, none⟩) hl2).trans r1
      have b2 := (hbw.cell (p := ⟨b', off' + k * 3 + 2, none⟩) hl2).trans r2
      have HBW : Hid (Below w.heap.size w wr) := hbw
      clear q0 q1 q2 r0 r1 r2 hp hbw
      go_wp2
      go_quiet (fail)
      go_wp2
      go_roundw
      case rel => exact ⟨k + 1, by omega, by go_num, ⟨HBW.out.os, HBW.out.tape, HBW.out.output, HBW.out.size, HBW.out.block⟩⟩
      case measure => simp [intOf]; omega
    · go_wp2
      go_ret
      exact ⟨rfl, hbw⟩

set_option maxRecDepth 100000 in
set_option maxHeartbeats 1000000 in
theorem gsame_yes (N : Int) (ao bo : Option Addr) (ac bc : Nat) (xs : List (Int × Int × Int)) (w : World) (ha : HasArcs w (.slice ao xs.length ac) xs) (hb : HasArcs w (.slice bo xs.length bc) xs) (hm : xs.length ≤ maxLen) :
    Calls Try.prog 15 #[.agg #[.int .i64 N, .slice ao xs.length ac], .agg #[.int .i64 N, .slice bo xs.length bc]] w fun e w' => e = .returned (.bool true) ∧ Below w.heap.size w w' := by
  obtain ⟨z, hz⟩ : ∃ z, w.heap.size = z := ⟨_, rfl⟩
  obtain ⟨W0, hW0⟩ : ∃ W0, (w.alloc (.cells #[.int .i64 N, .slice ao xs.length ac] 35)).alloc (.cells #[.int .i64 N, .slice bo xs.length bc] 35) = W0 := ⟨_, rfl⟩
  have hB0 : Below w.heap.size w W0 := by rw [← hW0]; exact ((Below.refl _ w).alloc (Nat.le_refl _) _).alloc (by simp) _
  have h0 : W0.heap[z]? = some (.cells #[.int .i64 N, .slice ao xs.length ac] 35) := by
    rw [← hW0, ← hz]; exact (Below.heap_alloc _ _ _ (by simp)).trans (heap_newW _ _)
  have h1 : W0.heap[z + 1]? = some (.cells #[.int .i64 N, .slice bo xs.length bc] 35) := by
    have g := heap_newW (w.alloc (.cells #[.int .i64 N, .slice ao xs.length ac] 35)) (.cells #[.int .i64 N, .slice bo xs.length bc] 35)
    rw [World.size_alloc, hW0, hz] at g
    exact g
  have c0 : W0.cell? ⟨z, 0, none⟩ = some (.int .i64 N) := by simp [World.cell?, h0]
  have c1 : W0.cell? ⟨z, 1, none⟩ = some (.slice ao xs.length ac) := by simp [World.cell?, h0]
  have d0 : W0.cell? ⟨z + 1, 0, none⟩ = some (.int .i64 N) := by simp [World.cell?, h1]
  have d1 : W0.cell? ⟨z + 1, 1, none⟩ = some (.slice bo xs.length bc) := by simp [World.cell?, h1]
  have HS : Hid (Calls Try.prog 42 #[.slice ao xs.length ac, .slice bo xs.length bc] W0 fun e w' => e = .returned (.bool true) ∧ Below W0.heap.size W0 w') := sameArcs_yes _ _ xs W0 (ha.keep hB0) (hb.keep hB0) hm
  have HB : Hid (Below w.heap.size w W0) := hB0
  have HW0 : Hid ((w.alloc (.cells #[.int .i64 N, .slice ao xs.length ac] 35)).alloc (.cells #[.int .i64 N, .slice bo xs.length bc] 35) = W0) := hW0
  clear hB0 hW0 h0 h1 ha hb
  go_enter Try.func15, Try.ntmps15
  go_upto_region 1 with fail
  rw [HW0.out]
  go_wp2_with (go_at_call 42; refine HS.out.mono ?_; rintro e w1 ⟨rfl, hb1⟩)
  go_ret
  exact ⟨rfl, HB.out.trans (hb1.mono HB.out.size)⟩
end Go.Proofs.Ytkehpmbnbknpfaa.Hi

namespace Go.Proofs.Ytkehpmbnbknpfaa.Hi
open Go.RowKit Go.Extern Go.Sort Go.Shelf

attribute [local go_sem] Oper.semAt_some

theorem arcs_three : sortE (gArcs three (stds three)) = [(0, 1, 4), (1, 2, 1)] := by kernel_rfl

def xsW : List (Int × Int × Int) := [(0, 1, 4), (1, 2, 1)]
theorem arcs_two (w : World) : HasArcs (w.alloc (.cells #[.int .i64 0, .int .i64 1, .int .i64 4, .int .i64 1, .int .i64 2, .int .i64 1] 49)) (.slice (some ⟨w.heap.size, 0, none⟩) 2 2) xsW := by
  have k0 := heap_newW w (.cells #[.int .i64 0, .int .i64 1, .int .i64 4, .int .i64 1, .int .i64 2, .int .i64 1] 49)
  generalize w.alloc (.cells #[.int .i64 0, .int .i64 1, .int .i64 4, .int .i64 1, .int .i64 2, .int .i64 1] 49) = W0 at *
  refine ⟨_, 2, rfl, fun j a hj => ⟨w.heap.size, 0, rfl, some_lt k0, ?_⟩⟩
  rcases j with _ | _ | j <;> simp [xsW] at hj <;> subst hj <;> simp [World.cell?, k0]

theorem graph_three {v : HV} {w : World} (h : HasH w v three) : Calls Try.prog 8 #[hvl v three] w fun e w' => ∃ lo c, e = .returned (.tuple #[.agg #[.int .i64 3, .slice lo 2 c], .nilIface]) ∧ Below w.heap.size w w' ∧ HasArcs w' (.slice lo 2 c) xsW := by
  refine (graph_calls v three w h (by decide) (by decide) (by decide)).mono ?_
  rintro e w2 ⟨N, lo, k, c, u, L, rfl, hb2, hA, hh⟩
  rcases hh with ⟨_, hN, hL, rfl⟩ | ⟨hc, _⟩
  · rw [arcs_three] at hL
    subst hL
    have hk : k = 2 := by obtain ⟨_, _, e, _⟩ := hA; injection e
    subst hk
    subst hN
    exact ⟨lo, c, rfl, hb2, hA⟩
  · exact absurd chk_three hc
theorem ends_three' {v : HV} {w : World} (h : HasH w v three) : Calls Try.prog 18 #[hvl v three, .int .i64 2] w fun e w' => e = .returned (.tuple #[.int .i64 1, .int .i64 0, .nilIface]) ∧ Below w.heap.size w w' := by
  refine (ends_calls v three 2 w h (by decide) (by decide) (by decide)).mono ?_
  rintro e w2 ⟨x, y, u, rfl, hb2, hh⟩
  rw [ends_three] at hh
  rcases hh with ⟨_, h1, rfl⟩ | ⟨_, h1, _⟩ | ⟨hc, _⟩
  · simp only [Prod.mk.injEq] at h1
    obtain ⟨rfl, rfl, _⟩ := h1
    exact ⟨rfl, hb2⟩
  · simp at h1
  · exact absurd chk_three hc
theorem check_three {v : HV} {w : World} (h : HasH w v three) : Calls Try.prog 19 #[hvl v three] w fun e w' => e = .returned .nilIface ∧ Below w.heap.size w w' := by
  refine (check_calls v three w h (by decide) (by decide) (by decide)).mono ?_
  rintro e w2 ⟨u, rfl, ht, hb⟩
  rw [chk_three] at ht
  rw [isTold_nil ht]
  exact ⟨rfl, hb⟩

set_option maxRecDepth 100000 in
set_option maxHeartbeats 4000000 in
theorem awake10_calls (w : World) : Calls Try.prog 4 #[] w fun e w' => e = .returned (.bool true) ∧ Below w.heap.size w w' := by
  go_enter Try.func4, Try.ntmps4
  go_wp2_with (first | (go_at_call 8; refine (graph_three HH1.out).mono ?_; rintro e w2 ⟨lo, c, rfl, hb2, hA2⟩; have HA2 : Hid (HasArcs w2 (.slice lo 2 c) xsW ∧ Below w.heap.size w w2) := ⟨hA2, HB1.out.trans (hb2.mono HB1.out.size)⟩; clear hA2 hb2) | (go_at_call 17; refine (three_calls _).mono ?_; rintro e w1 ⟨v1, rfl, hH1, hb1⟩; have HH1 : Hid (HasH w1 v1 three) := hH1; have HB1 : Hid (Below w.heap.size w w1) := hb1; clear hH1 hb1))
  obtain ⟨y, hy⟩ : ∃ y, w2.heap.size = y := ⟨_, rfl⟩
  obtain ⟨W2, hW2⟩ : ∃ W2, w2.alloc (.cells #[.int .i64 3, .slice lo 2 c] 35) = W2 := ⟨_, rfl⟩
  have HQ : Hid (∀ W, Below W2.heap.size W2 W → W.heap[y]? = some (.cells #[.int .i64 3, .slice lo 2 c] 35) ∧ HasArcs W (.slice lo 2 c) xsW ∧ Below w.heap.size w W) := by
    intro W hW
    have h1 : Below w2.heap.size w2 W2 := by rw [← hW2]; exact (Below.refl _ _).alloc (Nat.le_refl _) _
    have h2 : W2.heap[y]? = some (.cells #[.int .i64 3, .slice lo 2 c] 35) := by rw [← hW2, ← hy]; exact heap_newW _ _
    have h3 : Below w2.heap.size w2 W := h1.trans (hW.mono h1.size)
    exact ⟨(hW.block _ (some_lt h2)).trans h2, HA2.out.1.keep h3, HA2.out.2.trans (h3.mono HA2.out.2.size)⟩
  rw [hW2, hy]
  have HY : Hid (w2.heap.size = y) := hy
  clear hy hW2
  go_wp2_with (first | (go_at_call 18; refine (ends_three' HH3.out.1).mono ?_; rintro e w4 ⟨rfl, hb4⟩; have HB4 : Hid (Below W2.heap.size W2 w4) := HH3.out.2.trans (hb4.mono HH3.out.2.size); clear hb4) | (go_at_call 19; refine (check_three HH5.out.1).mono ?_; rintro e w6 ⟨rfl, hb6⟩; have HB6 : Hid (Below W2.heap.size W2 w6) := HH5.out.2.trans (hb6.mono HH5.out.2.size); clear hb6; have hq6 := (HQ.out _ HB6.out).1; have c0 : w6.cell? ⟨y, 0, none⟩ = some (.int .i64 3) := (by simp [World.cell?, hq6]); have c1 : w6.cell? ⟨y, 1, none⟩ = some (.slice lo 2 c) := (by simp [World.cell?, hq6]); clear hq6) | (go_at_call 17; first | (refine (three_calls w4).mono ?_; rintro e w5 ⟨v5, rfl, hH5, hb5⟩; have HH5 : Hid (HasH w5 v5 three ∧ Below W2.heap.size W2 w5) := ⟨hH5, HB4.out.trans (hb5.mono HB4.out.size)⟩; clear hH5 hb5) | (refine (three_calls W2).mono ?_; rintro e w3 ⟨v3, rfl, hH3, hb3⟩; have HH3 : Hid (HasH w3 v3 three ∧ Below W2.heap.size W2 w3) := ⟨hH3, hb3⟩; clear hH3 hb3)))
  have hA7 := arcs_two w6
  have hb7 : Below w6.heap.size w6 (w6.alloc (.cells #[.int .i64 0, .int .i64 1, .int .i64 4, .int .i64 1, .int .i64 2, .int .i64 1] 49)) := (Below.refl _ _).alloc (Nat.le_refl _) _
  obtain ⟨_, hq2, hq3⟩ := HQ.out _ (HB6.out.trans (hb7.mono HB6.out.size))
  generalize w6.alloc (.cells #[.int .i64 0, .int .i64 1, .int .i64 4, .int .i64 1, .int .i64 2, .int .i64 1] 49) = W7 at *
  refine (gsame_yes 3 lo (some ⟨w6.heap.size, 0, none⟩) c 2 xsW W7 hq2 hA7 (by unfold maxLen; decide)).mono ?_
  rintro e w8 ⟨rfl, hb8⟩
  have HB8 : Hid (Below w.heap.size w w8) := hq3.trans (hb8.mono hq3.size)
  clear hq2 hq3 hA7 hb7 hb8 c0 c1
  go_wp2
  go_ret
  exact ⟨rfl, HB8.out⟩
end Go.Proofs.Ytkehpmbnbknpfaa.Hi

namespace Go.Proofs.Ytkehpmbnbknpfaa.Hi
open Go.RowKit Go.Extern Go.Sort Go.Shelf

theorem sortE_perm (l : List (Int × Int × Int)) : (sortE l).Perm l := by
  have hps := pdq_sorts (ltOf endsI) swoE l.toArray 0 l.toArray.size (Lib.bitLen l.toArray.size) true true (Nat.zero_le _) (Nat.le_refl _) (Or.inl rfl)
  have hp := hps.1.2.2
  have hl := sortE_len l
  unfold sortE at hl ⊢
  generalize pdq (ltOf endsI) l.toArray 0 l.toArray.size (Lib.bitLen l.toArray.size) true true = d at *
  have e1 : (d.extract 0 l.toArray.size).toList = d.toList := by
    simp only [Array.length_toList] at hl
    simp only [Array.toList_extract, List.extract_eq_take_drop, List.drop_zero, Nat.sub_zero, List.size_toArray]
    exact List.take_of_length_le (by rw [Array.length_toList]; omega)
  rw [e1] at hp
  simpa using hp
theorem sortE_mem {l : List (Int × Int × Int)} {x : Int × Int × Int} : x ∈ sortE l ↔ x ∈ l := (sortE_perm l).mem_iff
theorem sortE_rise {l : List (Int × Int × Int)} (hd : l.Pairwise fun a b => ¬ sameA a b) : RiseA (sortE l) := by
  have hps := pdq_sorts (ltOf endsI) swoE l.toArray 0 l.toArray.size (Lib.bitLen l.toArray.size) true true (Nat.zero_le _) (Nat.le_refl _) (Or.inl rfl)
  have hs := hps.2
  have hd' : (sortE l).Pairwise fun a b => ¬ sameA a b := ((sortE_perm l).pairwise_iff (fun h g => h g.symm)).2 hd
  have hl := sortE_len l
  unfold RiseA
  rw [List.pairwise_iff_getElem] at hd' ⊢
  intro i j hi hj hij
  have h1 := hd' i j hi hj hij
  have h2 := hs i j (Nat.zero_le _) hij (by simp; omega)
  change ltOf endsI (pdq (ltOf endsI) l.toArray 0 l.toArray.size (Lib.bitLen l.toArray.size) true true)[j]! (pdq (ltOf endsI) l.toArray 0 l.toArray.size (Lib.bitLen l.toArray.size) true true)[i]! = false at h2
  have e : ∀ k (hk : k < (sortE l).length), (pdq (ltOf endsI) l.toArray 0 l.toArray.size (Lib.bitLen l.toArray.size) true true)[k]! = (sortE l)[k] := fun k hk => by
    unfold sortE at hk ⊢
    rw [getElem!_pos _ k (by simpa using hk), Array.getElem_toList]
  rw [e j hj, e i hi, ltE, decide_eq_false_iff_not] at h2
  refine (fun h => less_total (a := (sortE l)[j]) (b := (sortE l)[i]) h2 (fun g => h1 g.symm)) trivial
/-- the normal list of arcs turned about. -/
theorem sortE_turn {L L' : List (Int × Int × Int)} (hm : ∀ x, x ∈ L' ↔ turn x ∈ L) (hd : L'.Pairwise fun a b => ¬ sameA a b) (hl : ∀ a ∈ L, a.1 ≠ a.2.1) : sortE L' = normA ((sortE L).map turn) := by
  refine NormOf.unique (P := (· ∈ kept ((sortE L).map turn))) ?_ (normA_norm _)
  refine ⟨sortE_rise hd, fun x hx => ?_, fun y hy => ?_⟩
  · have h1 := (hm x).1 (sortE_mem.1 hx)
    rw [kept_mem, mem_turn, sortE_mem]
    exact ⟨h1, fun e => hl _ h1 (by simp [turn]; exact e.symm)⟩
  · have h1 := (kept_mem.1 hy).1
    rw [mem_turn, sortE_mem] at h1
    exact ⟨y, sortE_mem.2 ((hm y).2 h1), ⟨rfl, rfl⟩, Int.le_refl _⟩

theorem rk_mono {F : List Nat} {L : List Lk} (h : FOk F L.length) {i j : Nat} (hij : i ≤ j) {x y : Nat × Lk} (hx : (rkL F L)[i]? = some x) (hy : (rkL F L)[j]? = some y) : x.1 ≤ y.1 := by
  obtain ⟨_, a2, a3, a4⟩ := rkL_get h hx
  obtain ⟨_, b2, b3, b4⟩ := rkL_get h hy
  rcases Nat.lt_or_ge y.1 x.1 with hlt | hge
  · have := h.mono (a := y.1 + 1) (b := x.1) hlt (by omega)
    omega
  · exact hge
theorem sd_mono {h : Hr} (hu : FOk h.upF h.up.length) (hd : FOk h.dnF h.dn.length) {i j : Nat} (hij : i ≤ j) (hj : j < (stds h).length) (he : (sd (stds h) i).up = (sd (stds h) j).up) : (sd (stds h) i).rk ≤ (sd (stds h) j).rk := by
  have gi := sd_get (show i < (stds h).length by omega)
  have gj := sd_get hj
  rw [sd_up hu hd (by omega), sd_up hu hd hj] at he
  generalize sd (stds h) i = a at *
  generalize sd (stds h) j = b at *
  rcases Nat.lt_or_ge j h.up.length with h1 | h1
  · rw [stds_parts, List.getElem?_append_left (by rw [upsS_len hu]; omega), upsS, List.getElem?_map] at gi gj
    obtain ⟨x, hx, rfl⟩ := Option.map_eq_some_iff.1 gi
    obtain ⟨y, hy, rfl⟩ := Option.map_eq_some_iff.1 gj
    exact rk_mono hu hij hx hy
  · have h2 : h.up.length ≤ i := by
      rw [decide_eq_false (show ¬ j < h.up.length by omega), decide_eq_false_iff_not] at he
      omega
    rw [stds_parts, List.getElem?_append_right (by rw [upsS_len hu]; omega), upsS_len hu, dnsS, List.getElem?_map] at gi gj
    obtain ⟨x, hx, rfl⟩ := Option.map_eq_some_iff.1 gi
    obtain ⟨y, hy, rfl⟩ := Option.map_eq_some_iff.1 gj
    exact rk_mono hd (by omega) hx hy
/-- in a row the other ends rise. -/
theorem row_rise {h : Hr} (hc : chk h = (0, [])) {i : Nat} : ∀ j, i < j → j < (stds h).length → sameRow (sd (stds h) i) (sd (stds h) j) = true → (sd (stds h) i).lk.hd < (sd (stds h) j).lk.hd := by
  obtain ⟨k1, k2, k3, k4, k5, k6, k7, k8⟩ := chk_ok hc
  intro j
  induction j with
  | zero => intro h1; omega
  | succ j ih =>
    intro h1 h2 h3
    have f := (in_form hc h2).rise
    unfold rising at f
    have e0 : (j + 1 == 0) = false := by simp
    rw [e0, Bool.false_or, Nat.add_sub_cancel] at f
    have s3 : (sd (stds h) i).rk = (sd (stds h) (j + 1)).rk ∧ (sd (stds h) i).up = (sd (stds h) (j + 1)).up := by simpa [sameRow] using h3
    have mid : sameRow (sd (stds h) j) (sd (stds h) (j + 1)) = true ∧ (i < j → sameRow (sd (stds h) i) (sd (stds h) j) = true) := by
      have hu : (sd (stds h) j).up = (sd (stds h) (j + 1)).up := by
        have e := s3.2
        rw [sd_up k5 k6 (by omega), sd_up k5 k6 h2] at e ⊢
        by_cases a : j + 1 < h.up.length
        · simp [a]; omega
        · rw [decide_eq_false a, decide_eq_false_iff_not] at e
          rw [decide_eq_false a, decide_eq_false_iff_not]; omega
      have m1 := sd_mono k5 k6 (Nat.le_of_lt_succ h1) (by omega) (s3.2.trans hu.symm)
      have m2 : (sd (stds h) j).rk ≤ (sd (stds h) (j + 1)).rk := sd_mono k5 k6 (Nat.le_succ j) h2 hu
      refine ⟨?_, fun _ => ?_⟩
      · simp [sameRow, hu]; omega
      · simp [sameRow, s3.2, hu]; omega
    rw [mid.1] at f
    have f2 : (sd (stds h) j).lk.hd < (sd (stds h) (j + 1)).lk.hd := by simpa using f
    rcases Nat.lt_or_eq_of_le (Nat.le_of_lt_succ h1) with h4 | h4
    · exact Nat.lt_trans (ih h4 (by omega) (mid.2 h4)) f2
    · rw [h4]; exact f2
theorem stds_apart {h : Hr} (hc : chk h = (0, [])) : (stds h).Pairwise fun a b => ¬ (a.tail = b.tail ∧ a.head = b.head) := by
  rw [List.pairwise_iff_getElem]
  intro i j hi hj hij
  have ei : (stds h)[i] = sd (stds h) i := by have := sd_get hi; rw [List.getElem?_eq_getElem hi] at this; exact Option.some.inj this
  have ej : (stds h)[j] = sd (stds h) j := by have := sd_get hj; rw [List.getElem?_eq_getElem hj] at this; exact Option.some.inj this
  rw [ei, ej]
  rintro ⟨t, u⟩
  have a := (in_form hc hi).low
  have b := (in_form hc hj).low
  have key := row_rise hc j hij hj
  unfold Sd.tail at t
  unfold Sd.head at u
  unfold sameRow at key
  cases p : (sd (stds h) i).up <;> cases q : (sd (stds h) j).up <;> rw [p, q] at t u key <;> simp at t u key <;> omega
theorem node_apart {N : List Nat} (hc : cn N = (0, [])) {r s : Nat} (hr : r < N.length) (hs : s < N.length) (he : nth N r = nth N s) : r = s := by
  have key : ∀ r s, r < s → s < N.length → nth N r ≠ nth N s := fun r s h1 h2 e => by
    have f := (ferr_ok N.length 0).1 hc s (Nat.zero_le _) (by omega)
    unfold cnF at f
    split at f
    · simp at f
    · rename_i g
      apply g
      right
      rw [← e]
      have := nth_get (F := N) (i := r) (by omega)
      exact List.mem_of_getElem? (i := r) (by rw [List.getElem?_take, if_pos h1]; exact this)
  rcases Nat.lt_trichotomy r s with h1 | h1 | h1
  · exact absurd he (key r s h1 hs)
  · exact h1
  · exact absurd he.symm (key s r h1 hr)
theorem node_lt {N : List Nat} (hc : cn N = (0, [])) {r : Nat} (hr : r < N.length) : nth N r < N.length := by
  have f := (ferr_ok N.length 0).1 hc r (Nat.zero_le _) (by omega)
  unfold cnF at f
  split at f
  · simp at f
  · omega
theorem sd_mem {all : List Sd} {s : Sd} (hs : s ∈ all) : ∃ i, i < all.length ∧ sd all i = s := by
  obtain ⟨i, hi⟩ := List.mem_iff_getElem?.1 hs
  exact ⟨i, (List.getElem?_eq_some_iff.1 hi).1, sd_of hi⟩
theorem garcs_apart {h : Hr} (hc : chk h = (0, [])) : (gArcs h (stds h)).Pairwise fun a b => ¬ sameA a b := by
  obtain ⟨k1, k2, k3, k4, k5, k6, k7, k8⟩ := chk_ok hc
  unfold gArcs
  rw [List.pairwise_map]
  refine List.Pairwise.filter _ ?_
  refine (stds_apart hc).imp_of_mem ?_
  intro a b ha hb hn hs
  obtain ⟨p1, p2, _, _⟩ := form_mem k8 ha
  obtain ⟨q1, q2, _, _⟩ := form_mem k8 hb
  obtain ⟨s1, s2⟩ := hs
  simp only [arcOf] at s1 s2
  exact hn ⟨node_apart k7 p1 q1 (by omega), node_apart k7 p2 q2 (by omega)⟩
theorem garcs_good {h : Hr} (hc : chk h = (0, [])) {a : Int × Int × Int} (ha : a ∈ gArcs h (stds h)) : arcBad (h.node.length : Int) a = 0 ∧ a.1 ≠ a.2.1 := by
  obtain ⟨k1, k2, k3, k4, k5, k6, k7, k8⟩ := chk_ok hc
  unfold gArcs at ha
  obtain ⟨s, hs, rfl⟩ := List.mem_map.1 ha
  rw [List.mem_filter] at hs
  obtain ⟨p1, p2, p3, p4⟩ := form_mem k8 hs.1
  have n1 := node_lt k7 p1
  have n2 := node_lt k7 p2
  have n3 := p4 hs.2
  constructor
  · unfold arcBad arcOf
    simp only
    rw [if_neg (by omega), if_neg (by omega)]
  · simp only [arcOf]
    intro e
    exact p3 (node_apart k7 p1 p2 (by omega))
theorem garcs_turn {h : Hr} (hc : chk h = (0, [])) (x : Int × Int × Int) : x ∈ gArcs (turnH h) (stds (turnH h)) ↔ turn x ∈ gArcs h (stds h) := by
  obtain ⟨k1, k2, k3, k4, k5, k6, k7, k8⟩ := chk_ok hc
  have hpl : ∀ s ∈ stds h, (flipS h.up.length h.dn.length s).lk.plain = s.lk.plain := fun s hs => by
    obtain ⟨i, hi, rfl⟩ := sd_mem hs
    simp only [flipS]
    exact turnL_plain k2 (fun hp => (kids hc hi hp).2)
  have harc : ∀ s, arcOf (turnH h) (flipS h.up.length h.dn.length s) = turn (arcOf h s) := fun s => by
    unfold arcOf turn
    rw [flip_tail, flip_head]
    simp [turnH, flipS, turnL_wt]
  have hst : ∀ s', s' ∈ stds (turnH h) ↔ ∃ s ∈ stds h, flipS h.up.length h.dn.length s = s' := fun s' => by
    rw [stds_turn, stds_parts]
    simp only [List.mem_append, List.mem_map]
    constructor
    · rintro (⟨s, hs, e⟩ | ⟨s, hs, e⟩)
      · exact ⟨s, Or.inr hs, e⟩
      · exact ⟨s, Or.inl hs, e⟩
    · rintro ⟨s, hs | hs, e⟩
      · exact Or.inr ⟨s, hs, e⟩
      · exact Or.inl ⟨s, hs, e⟩
  have tt : ∀ a : Int × Int × Int, turn (turn a) = a := fun a => rfl
  unfold gArcs
  simp only [List.mem_map, List.mem_filter]
  constructor
  · rintro ⟨s', ⟨hs', hp⟩, rfl⟩
    obtain ⟨s, hs, rfl⟩ := (hst s').1 hs'
    rw [hpl s hs] at hp
    exact ⟨s, ⟨hs, hp⟩, by rw [harc, tt]⟩
  · rintro ⟨s, ⟨hs, hp⟩, e⟩
    exact ⟨flipS h.up.length h.dn.length s, ⟨(hst _).2 ⟨s, hs, rfl⟩, by rw [hpl s hs]; exact hp⟩, by rw [harc, e, tt]⟩
theorem graph_turn {h : Hr} (hc : chk h = (0, [])) : sortE (gArcs (turnH h) (stds (turnH h))) = normA ((sortE (gArcs h (stds h))).map turn) :=
  sortE_turn (garcs_turn hc) (garcs_apart (turn_chk hc)) (fun _ ha => (garcs_good hc ha).2)
theorem graph_right {h : Hr} (hc : chk h = (0, [])) (hl : (stds h).length ≤ 262144) : graphErr (h.node.length : Int) (sortE (gArcs h (stds h))) = (0, []) := by
  obtain ⟨k1, k2, k3, k4, k5, k6, k7, k8⟩ := chk_ok hc
  rw [good_iff]
  refine ⟨?_, fun a ha => (garcs_good hc (sortE_mem.1 ha)).1⟩
  rw [sortE_len]
  have := gArcs_len h (stds h)
  omega
end Go.Proofs.Ytkehpmbnbknpfaa.Hi

namespace Go.Proofs.Ytkehpmbnbknpfaa.Hi
open Go.RowKit Go.Extern Go.Shelf

attribute [local go_sem] Oper.semAt_some

set_option maxRecDepth 100000 in
set_option maxHeartbeats 4000000 in
theorem turn_bad (v : HV) (h : Hr) (w : World) (hH : HasH w v h) (hb1 : h.up.length ≤ 1152921504606846976) (hb2 : h.dn.length ≤ 1152921504606846976) (hb3 : h.node.length ≤ 1152921504606846976) (hc : chk h ≠ (0, [])) :
    Calls Try.prog 7 #[hvl v h] w fun e w' => ∃ T x, e = .returned (.tuple #[.agg #[.slice none 0 0, .slice none 0 0, .slice none 0 0, .slice none 0 0, .slice none 0 0], .iface T x]) ∧ Below w.heap.size w w' := by
  obtain ⟨z, hz⟩ : ∃ z, w.heap.size = z := ⟨_, rfl⟩
  obtain ⟨W0, hW0⟩ : ∃ W0, (w.alloc (.cells (cellsH v h) 25)).alloc (.cells #[.slice none 0 0, .slice none 0 0, .slice none 0 0, .slice none 0 0, .slice none 0 0] 25) = W0 := ⟨_, rfl⟩
  have hB0 : Below w.heap.size w W0 := by rw [← hW0]; exact ((Below.refl _ w).alloc (Nat.le_refl _) _).alloc (by simp) _
  have h0 : W0.heap[z]? = some (.cells (cellsH v h) 25) := by
    rw [← hW0, ← hz]; exact (Below.heap_alloc _ _ _ (by simp)).trans (heap_newW _ _)
  have h1 : W0.heap[z + 1]? = some (.cells #[.slice none 0 0, .slice none 0 0, .slice none 0 0, .slice none 0 0, .slice none 0 0] 25) := by
    have g := heap_newW (w.alloc (.cells (cellsH v h) 25)) (.cells #[.slice none 0 0, .slice none 0 0, .slice none 0 0, .slice none 0 0, .slice none 0 0] 25)
    rw [World.size_alloc, hW0, hz] at g
    exact g
  have HB0 : Hid (∀ wx, Below W0.heap.size W0 wx → Below w.heap.size w wx ∧ wx.heap[z + 1]? = some (.cells #[.slice none 0 0, .slice none 0 0, .slice none 0 0, .slice none 0 0, .slice none 0 0] 25)) := fun wx hx => ⟨hB0.trans (hx.mono hB0.size), (hx.block _ (some_lt h1)).trans h1⟩
  have HCK : Hid (Calls Try.prog 19 #[hvl v h] W0 fun e w' => ∃ u, e = .returned u ∧ IsTold w' (chk h) u ∧ Below W0.heap.size W0 w') := check_calls v h W0 (hH.keep hB0) hb1 hb2 hb3
  have HW0 : Hid ((w.alloc (.cells (cellsH v h) 25)).alloc (.cells #[.slice none 0 0, .slice none 0 0, .slice none 0 0, .slice none 0 0, .slice none 0 0] 25) = W0) := hW0
  have HC : Hid (chk h ≠ (0, [])) := hc
  have HZZ : Hid (w.heap.size = z) := hz
  obtain ⟨a0, a1, a2, a3, a4⟩ := five_cells h0
  clear hW0 h0 h1 hB0 hH hc
  unfold cellsH at HW0
  unfold hvl at HCK ⊢
  go_enter Try.func7, Try.ntmps7
  go_upto_region 1 with fail
  rw [HW0.out]
  go_wp2_with fail
  refine HCK.out.mono ?_
  rintro e y0 ⟨u, rfl, ht, hy⟩
  obtain ⟨tt, xx, hu1, _⟩ := isTold_some ht HC.out
  subst hu1
  have Y0 : Hid (Below W0.heap.size W0 y0) := hy
  obtain ⟨z0, z1, z2, z3, z4⟩ := five_cells (HB0.out y0 hy).2
  obtain ⟨f0, f1, f2, f3, f4⟩ := five_free (HB0.out y0 hy).2
  clear hy ht a0 a1 a2 a3 a4
  go_wp2
  have hS := set_five (HB0.out _ Y0.out).2 (.slice none 0 0) (.slice none 0 0) (.slice none 0 0) (.slice none 0 0) (.slice none 0 0)
  have hbb : Below w.heap.size w (((((y0.setCell ⟨z + 1, 0, none⟩ (.slice none 0 0)).setCell ⟨z + 1, 1, none⟩ (.slice none 0 0)).setCell ⟨z + 1, 2, none⟩ (.slice none 0 0)).setCell ⟨z + 1, 3, none⟩ (.slice none 0 0)).setCell ⟨z + 1, 4, none⟩ (.slice none 0 0)) := (((((HB0.out _ Y0.out).1.setCell (by rw [HZZ.out]; exact Nat.le_succ _) _).setCell (by rw [HZZ.out]; exact Nat.le_succ _) _).setCell (by rw [HZZ.out]; exact Nat.le_succ _) _).setCell (by rw [HZZ.out]; exact Nat.le_succ _) _).setCell (by rw [HZZ.out]; exact Nat.le_succ _) _
  obtain ⟨c0, c1, c2, c3, c4⟩ := five_cells hS
  refine bodyPost_ret (v := .tuple #[.agg #[.slice none 0 0, .slice none 0 0, .slice none 0 0, .slice none 0 0, .slice none 0 0], .iface tt xx]) (by simp [results, Try.results7, go_sem, c0, c1, c2, c3, c4]) rfl ⟨tt, xx, rfl, hbb⟩

theorem turn_ok {v : HV} {h : Hr} {w : World} (hH : HasH w v h) (hc : chk h = (0, [])) :
    Calls Try.prog 7 #[hvl v h] w fun e w' => ∃ u, e = .returned (.tuple #[hvl u (turnH h), .nilIface]) ∧ HasH w' u (turnH h) ∧ OwnH w' w.heap.size u (turnH h) ∧ Below w.heap.size w w' := by
  obtain ⟨k1, k2, k3, k4, k5, k6, k7, k8⟩ := chk_ok hc
  refine (turn_good v h w hH hc).mono ?_
  rintro e w' ⟨u, rfl, ho, hb⟩
  refine ⟨u, rfl, ⟨ws_of_own ho.node hH.node.ok, ws_of_own ho.upF hH.dnF.ok, ls_of_own ho.up fun l hl => ?_, ws_of_own ho.dnF hH.upF.ok, ls_of_own ho.dn fun l hl => ?_⟩, ho, hb⟩
  · obtain ⟨l0, h0, rfl⟩ := List.mem_map.1 hl
    exact turnL_ok k2 (fun hp => kids_mem hc (Or.inr h0) hp) (hH.dn.ok _ h0)
  · obtain ⟨l0, h0, rfl⟩ := List.mem_map.1 hl
    exact turnL_ok k2 (fun hp => kids_mem hc (Or.inl h0) hp) (hH.up.ok _ h0)
/-- the link of a number, turned about. -/
def other (h : Hr) (i : Nat) : Nat := if h.up.length ≤ i then i - h.up.length else i + h.dn.length
theorem other_lt {h : Hr} {i : Nat} (hi : i < h.up.length + h.dn.length) : other h i < h.up.length + h.dn.length := by unfold other; split <;> omega
theorem other_sd {h : Hr} (hc : chk h = (0, [])) {i : Nat} (hi : i < h.up.length + h.dn.length) : sd (stds (turnH h)) (other h i) = flipS h.up.length h.dn.length (sd (stds h) i) := by
  obtain ⟨k1, k2, k3, k4, k5, k6, k7, k8⟩ := chk_ok hc
  unfold other
  split
  · rw [sd_turn_lo k5 k6 (by omega), show h.up.length + (i - h.up.length) = i by omega]
  · rw [Nat.add_comm, sd_turn_hi k5 k6 (by omega)]
theorem graph_ok {v : HV} {h : Hr} {w : World} (hH : HasH w v h) (hc : chk h = (0, [])) :
    Calls Try.prog 8 #[hvl v h] w fun e w' => ∃ lo k c, e = .returned (.tuple #[.agg #[.int .i64 (h.node.length : Int), .slice lo k c], .nilIface]) ∧ HasArcs w' (.slice lo k c) (sortE (gArcs h (stds h))) ∧ Below w.heap.size w w' := by
  obtain ⟨k1, k2, k3, k4, k5, k6, k7, k8⟩ := chk_ok hc
  refine (graph_calls v h w hH (by omega) (by omega) (by omega)).mono ?_
  rintro e w' ⟨N, lo, k, c, u, L, rfl, hb, hA, hh⟩
  rcases hh with ⟨_, rfl, rfl, rfl⟩ | ⟨hn, _⟩
  · exact ⟨lo, k, c, rfl, hA, hb⟩
  · exact absurd hc hn
/-- a box that is made and filled. -/
theorem box_five (W : World) (x0 x1 x2 x3 x4 : Value) (T : TypeId) (o : Array Value) (ho : ∃ a b c d e, o = #[a, b, c, d, e]) :
    Below W.heap.size W ((((((W.alloc (.cells o T)).setCell ⟨W.heap.size, 0, none⟩ x0).setCell ⟨W.heap.size, 1, none⟩ x1).setCell ⟨W.heap.size, 2, none⟩ x2).setCell ⟨W.heap.size, 3, none⟩ x3).setCell ⟨W.heap.size, 4, none⟩ x4) ∧ ((((((W.alloc (.cells o T)).setCell ⟨W.heap.size, 0, none⟩ x0).setCell ⟨W.heap.size, 1, none⟩ x1).setCell ⟨W.heap.size, 2, none⟩ x2).setCell ⟨W.heap.size, 3, none⟩ x3).setCell ⟨W.heap.size, 4, none⟩ x4).heap[W.heap.size]? = some (.cells #[x0, x1, x2, x3, x4] T) := by
  obtain ⟨a, b, c, d, e, rfl⟩ := ho
  refine ⟨?_, set_five (heap_newW _ _) _ _ _ _ _⟩
  exact ((((((Below.refl _ _).alloc (Nat.le_refl _) _).setCell (Nat.le_refl _) _).setCell (Nat.le_refl _) _).setCell (Nat.le_refl _) _).setCell (Nat.le_refl _) _).setCell (Nat.le_refl _) _
theorem box_two (W : World) (x0 x1 : Value) (T : TypeId) (o : Array Value) (ho : ∃ a b, o = #[a, b]) :
    Below W.heap.size W (((W.alloc (.cells o T)).setCell ⟨W.heap.size, 0, none⟩ x0).setCell ⟨W.heap.size, 1, none⟩ x1) ∧ (((W.alloc (.cells o T)).setCell ⟨W.heap.size, 0, none⟩ x0).setCell ⟨W.heap.size, 1, none⟩ x1).heap[W.heap.size]? = some (.cells #[x0, x1] T) := by
  obtain ⟨a, b, rfl⟩ := ho
  exact ⟨(((Below.refl _ _).alloc (Nat.le_refl _) _).setCell (Nat.le_refl _) _).setCell (Nat.le_refl _) _, set_two (heap_newW _ _) _ _⟩
/-- a list of arcs doesn't lie in a graph's box. -/
theorem arcs_off {w : World} {lo : Option Addr} {k c : Nat} {L : List (Int × Int × Int)} (h : HasArcs w (.slice lo k c) L) (hne : L ≠ []) {b : Nat} {N : Int} {lo' : Option Addr} {k' c' : Nat} {T : TypeId} (hb : w.heap[b]? = some (.cells #[.int .i64 N, .slice lo' k' c'] T)) : ∀ a, lo = some a → a.block ≠ b := by
  intro a ea e
  obtain ⟨x, r, rfl⟩ : ∃ x r, L = x :: r := by
    cases L with
    | nil => exact absurd rfl hne
    | cons x r => exact ⟨x, r, rfl⟩
  obtain ⟨b2, off, e2, _, h0, h1, _⟩ := h.at (k := 0) (a := x) rfl
  subst ea
  obtain rfl : a = ⟨b2, off, none⟩ := Option.some.inj e2
  simp at e
  subst e
  simp only [World.cell?, hb] at h1
  rcases off with _ | off
  · simp at h1
  · simp at h1
theorem arcs_set2 {w : World} {lo : Option Addr} {k c : Nat} {L : List (Int × Int × Int)} (h : HasArcs w (.slice lo k c) L) {b : Nat} {N : Int} {lo' : Option Addr} {k' c' : Nat} {T : TypeId} (hb : w.heap[b]? = some (.cells #[.int .i64 N, .slice lo' k' c'] T)) (x y : Value) : HasArcs ((w.setCell ⟨b, 0, none⟩ x).setCell ⟨b, 1, none⟩ y) (.slice lo k c) L := by
  have hs : w.heap.size ≤ ((w.setCell ⟨b, 0, none⟩ x).setCell ⟨b, 1, none⟩ y).heap.size := by simp [World.setCell]
  by_cases hne : L = []
  · subst hne
    obtain ⟨ao, cap, e, _⟩ := h
    exact ⟨ao, cap, e, fun j a hj => by simp at hj⟩
  · exact arcs_far h hs fun a ea => (Below.heap_setCell _ _ _ _ (arcs_off h hne hb a ea)).trans (Below.heap_setCell _ _ _ _ (arcs_off h hne hb a ea))
/-- two graphs in their boxes. -/
structure GP (g p n : Nat) (lo : Option Addr) (k c : Nat) (lp : Option Addr) (kp cp : Nat) (A B : List (Int × Int × Int)) (w W : World) : Prop where
  bg : W.heap[g]? = some (.cells #[.int .i64 (n : Int), .slice lo k c] 35)
  bp : W.heap[p]? = some (.cells #[.int .i64 (n : Int), .slice lp kp cp] 35)
  ag : HasArcs W (.slice lo k c) A
  ap : HasArcs W (.slice lp kp cp) B
  bel : Below w.heap.size w W
  ne : g < p
  hi : w.heap.size ≤ g
theorem GP.keep {g p n k c kp cp : Nat} {lo lp : Option Addr} {A B : List (Int × Int × Int)} {w W W' : World} (h : GP g p n lo k c lp kp cp A B w W) (hb : Below W.heap.size W W') : GP g p n lo k c lp kp cp A B w W' :=
  ⟨(hb.block _ (some_lt h.bg)).trans h.bg, (hb.block _ (some_lt h.bp)).trans h.bp, h.ag.keep hb, h.ap.keep hb, h.bel.trans (hb.mono h.bel.size), h.ne, h.hi⟩
theorem GP.store {g p n k c kp cp k2 c2 : Nat} {lo lp lo2 : Option Addr} {A B A2 : List (Int × Int × Int)} {w W : World} (h : GP g p n lo k c lp kp cp A B w W) (h2 : HasArcs W (.slice lo2 k2 c2) A2) : GP g p n lo2 k2 c2 lp kp cp A2 B w ((W.setCell ⟨g, 0, none⟩ (.int .i64 (n : Int))).setCell ⟨g, 1, none⟩ (.slice lo2 k2 c2)) :=
  ⟨set_two h.bg _ _, ((Below.heap_setCell _ _ _ _ (by have := h.ne; show p ≠ g; omega)).trans (Below.heap_setCell _ _ _ _ (by have := h.ne; show p ≠ g; omega))).trans h.bp, arcs_set2 h2 h.bg _ _, arcs_set2 h.ap h.bg _ _, (h.bel.setCell h.hi _).setCell h.hi _, h.ne, h.hi⟩
theorem two_cells {w : World} {b : Nat} {T : TypeId} {a0 a1 : Value} (h : w.heap[b]? = some (.cells #[a0, a1] T)) : (w.cell? ⟨b, 0, none⟩ = some a0 ∧ w.cell? ⟨b, 1, none⟩ = some a1) ∧ w.frozen? ⟨b, 0, none⟩ = false ∧ w.frozen? ⟨b, 1, none⟩ = false := by simp [World.cell?, World.frozen?, h]
end Go.Proofs.Ytkehpmbnbknpfaa.Hi
