/- where two lists of ranks meet: plain mathematics. query.nearest. query.ends. query.meet, Distance and Meet. query.Distance and Meet; the law's great and awake. (genqd.py) -/
import Derived.Test.YtejpjbllonnafaaDoorCbX
import Derived.Test.YtejpjbllonnafaaDoorHrR
import Derived.Test.YtejpjbllonnafaaDoorHpA
import Derived.Test.YtejpjbllonnafaaDoorHtC
import Derived.Test.YtejpjbllonnafaaDoorHrQ
namespace Go.Proofs.YtejpjbllonnafaaDoor.Qy
open Hi Cb

abbrev Sn := Nat × Int × Bool
/-- the better meeting. -/
def bst (b : Option (Nat × Int)) (x y : Sn) : Option (Nat × Int) := if x.1 = y.1 then (match b with
  | none => some (x.1, x.2.1 + y.2.1)
  | some (r, d) => if x.2.1 + y.2.1 < d then some (x.1, x.2.1 + y.2.1) else some (r, d)) else b
def nearG : Nat → Option (Nat × Int) → List Sn → List Sn → Option (Nat × Int)
  | f + 1, b, x :: p, y :: q => nearG f (bst b x y) (if x.1 ≤ y.1 then p else x :: p) (if y.1 ≤ x.1 then q else y :: q)
  | _, b, _, _ => b
def near (p q : List Sn) : Option (Nat × Int) := nearG (p.length + q.length) none p q
theorem bst_symm (b : Option (Nat × Int)) (x y : Sn) : bst b x y = bst b y x := by
  unfold bst
  by_cases h : x.1 = y.1
  · rw [if_pos h, if_pos h.symm, Int.add_comm, h]
  · rw [if_neg h, if_neg (fun e => h e.symm)]
theorem nearG_symm : ∀ (f : Nat) (b : Option (Nat × Int)) (p q : List Sn), nearG f b p q = nearG f b q p
  | 0, b, p, q => by cases p <;> cases q <;> rfl
  | f + 1, b, [], q => by cases q <;> rfl
  | f + 1, b, x :: p, [] => rfl
  | f + 1, b, x :: p, y :: q => by
    rw [nearG, nearG, bst_symm, nearG_symm f]
theorem near_symm (p q : List Sn) : near p q = near q p := by unfold near; rw [nearG_symm, Nat.add_comm]
theorem nearG_nil (f : Nat) (b : Option (Nat × Int)) (p q : List Sn) (h : p = [] ∨ q = []) : nearG f b p q = b := by
  rcases h with rfl | rfl
  · cases f <;> rfl
  · cases f <;> cases p <;> rfl
/-- a meeting at 0 is not bettered. -/
theorem nearG_zero (r : Nat) : ∀ (f : Nat) (p q : List Sn), (∀ x ∈ p, 0 ≤ x.2.1) → (∀ x ∈ q, 0 ≤ x.2.1) → nearG f (some (r, 0)) p q = some (r, 0)
  | 0, p, q, _, _ => by cases p <;> cases q <;> rfl
  | f + 1, [], q, _, _ => by cases q <;> rfl
  | f + 1, x :: p, [], _, _ => rfl
  | f + 1, x :: p, y :: q, hp, hq => by
    have h1 := hp x (List.mem_cons_self ..)
    have h2 := hq y (List.mem_cons_self ..)
    have e : bst (some (r, 0)) x y = some (r, 0) := by
      unfold bst
      split
      · simp only
        rw [if_neg (by omega)]
      · rfl
    rw [nearG, e]
    refine nearG_zero r f _ _ (fun z hz => ?_) (fun z hz => ?_)
    · split at hz
      · exact hp z (List.mem_cons_of_mem _ hz)
      · exact hp z hz
    · split at hz
      · exact hq z (List.mem_cons_of_mem _ hz)
      · exact hq z hz
/-- lengths are no less than 0. -/
theorem low_relaxs {d : Int} (hd : 0 ≤ d) : ∀ (row : List Lk) (vs : List (Option Int)), (∀ (x : Nat) (k : Int), vs[x]? = some (some k) → 0 ≤ k) → ∀ (x : Nat) (k : Int), (relaxs d row vs)[x]? = some (some k) → 0 ≤ k
  | [], vs, h, x, k, hk => h x k hk
  | l :: r, vs, h, x, k, hk => by
    refine low_relaxs hd r (relax vs l.hd (d + l.wt)) (fun y j hj => ?_) x k hk
    by_cases e : y = l.hd
    · subst e
      have hlt : l.hd < vs.length := by have := (List.getElem?_eq_some_iff.1 hj).1; rwa [relax_len] at this
      obtain ⟨k2, h2, h3⟩ := relax_at (d := d + l.wt) hlt
      rw [h2] at hj
      obtain rfl : k2 = j := by simpa using hj
      rcases h3 with rfl | h3
      · omega
      · exact h _ k2 h3
    · rw [relax_other e] at hj
      exact h y j hj
theorem run_pos (row : Nat → List Lk) : ∀ (m r : Nat) (vs : List (Option Int)) (out : List (Nat × Int)), (∀ (x : Nat) (k : Int), vs[x]? = some (some k) → 0 ≤ k) → (∀ x ∈ out, 0 ≤ x.2) → ∀ x ∈ (run row m r vs out).2, 0 ≤ x.2
  | 0, r, vs, out, _, ho, x, hx => ho x hx
  | m + 1, r, vs, out, hv, ho, x, hx => by
    rw [run] at hx
    split at hx
    · rename_i d hd
      refine run_pos row m (r + 1) _ _ (low_relaxs (hv _ _ hd) _ _ hv) (fun y hy => ?_) x hx
      rcases List.mem_append.1 hy with h | h
      · exact ho y h
      · simp at h
        subst h
        exact hv _ _ hd
    · exact run_pos row m (r + 1) _ _ hv ho x hx
theorem run_prefix (row : Nat → List Lk) : ∀ (m r : Nat) (vs : List (Option Int)) (out : List (Nat × Int)), ∃ t, (run row m r vs out).2 = out ++ t
  | 0, r, vs, out => ⟨[], by simp [run]⟩
  | m + 1, r, vs, out => by
    rw [run]
    split
    · rename_i d hd
      obtain ⟨t, ht⟩ := run_prefix row m (r + 1) (relaxs d (row r) vs) (out ++ [(r, d)])
      exact ⟨(r, d) :: t, by rw [ht, List.append_assoc]; rfl⟩
    · exact run_prefix row m (r + 1) vs out
theorem climbed_head {n s : Nat} (hs : s < n) (a b : Nat → List Lk) : ∃ bb t, climbed n s a b = (s, 0, bb) :: t ∧ ∀ x ∈ climbed n s a b, 0 ≤ x.2.1 := by
  have h0 : (Cb.start n s)[s]? = some (some 0) := by unfold Cb.start; simp [hs]
  have hn : ∀ y, 0 ≤ y → y < s → (Cb.start n s)[y]? = some none ∨ (Cb.start n s)[y]? = none := fun y _ hy => by
    unfold Cb.start
    rw [List.getElem?_set_ne (by omega), List.getElem?_replicate]
    split
    · exact Or.inl rfl
    · exact Or.inr rfl
  have e := run_take a (vs := Cb.start n s) (out := []) (n := n) (r := 0) (x := s) (d := 0) (Nat.zero_le _) hs h0 hn
  rw [Nat.sub_zero] at e
  obtain ⟨t, ht⟩ := run_prefix a (n - (s + 1)) (s + 1) (relaxs 0 (a s) (Cb.start n s)) ([] ++ [(s, 0)])
  have e2 : (run a n 0 (Cb.start n s) []).2 = (s, 0) :: t := by rw [e, ht]; rfl
  refine ⟨stalled (run a n 0 (Cb.start n s) []).1 (b s) 0, t.map fun x => (x.1, x.2, stalled (run a n 0 (Cb.start n s) []).1 (b x.1) x.2), ?_, fun x hx => ?_⟩
  · unfold climbed
    simp only
    rw [e2]
    rfl
  · unfold climbed at hx
    simp only at hx
    obtain ⟨y, hy, rfl⟩ := List.mem_map.1 hx
    exact run_pos a n 0 (Cb.start n s) [] (fun x k hk => (low_start n s x k hk).1) (fun x hx => by simp at hx) y hy
/-- from a rank to itself. -/
theorem near_self {h : Hr} {r : Nat} (hr : r < h.node.length) : near (upL h r) (dnL h r) = some (r, 0) := by
  obtain ⟨b1, t1, e1, p1⟩ := climbed_head hr (rowL h.upF h.up) (rowL h.dnF h.dn)
  obtain ⟨b2, t2, e2, p2⟩ := climbed_head hr (rowL h.dnF h.dn) (rowL h.upF h.up)
  unfold upL dnL near
  rw [e1] at p1
  rw [e2] at p2
  rw [e1, e2]
  have e3 : bst none (r, 0, b1) (r, 0, b2) = some (r, 0) := by simp [bst]
  rw [List.length_cons, Nat.succ_add, nearG, e3]
  exact nearG_zero r _ _ _ (fun x hx => by
    simp at hx
    exact p1 x (List.mem_cons_of_mem _ hx)) (fun x hx => by
    simp at hx
    exact p2 x (List.mem_cons_of_mem _ hx))
theorem nth_list : ∀ (N : List Nat), N = (List.range N.length).map (nth N) := fun N => by
  apply List.ext_getElem?
  intro i
  rw [List.getElem?_map]
  by_cases hi : i < N.length
  · rw [List.getElem?_range hi, nth_get hi]; rfl
  · rw [List.getElem?_eq_none (by omega), List.getElem?_eq_none (by simp; omega)]; rfl
/-- every node has a rank. -/
theorem node_has {N : List Nat} (hc : cn N = (0, [])) {v : Nat} (hv : v < N.length) : ∃ r, r < N.length ∧ nth N r = v := by
  by_cases hex : ∃ r, r < N.length ∧ nth N r = v
  · exact hex
  · exfalso
    have hlt : ∀ r, r < N.length → nth N r < N.length := fun r hr => (cn_ok hc hr).1
    have hnd : (N ++ [v]).Nodup := by
      rw [List.nodup_append]
      refine ⟨?_, by simp, ?_⟩
      · unfold List.Nodup
        rw [List.pairwise_iff_getElem]
        intro i j hi hj hij e
        have e1 : N[i] = nth N i := by have := nth_get hi; rw [List.getElem?_eq_getElem hi] at this; exact Option.some.inj this
        have e2 : N[j] = nth N j := by have := nth_get hj; rw [List.getElem?_eq_getElem hj] at this; exact Option.some.inj this
        have e' : nth N i = nth N j := by rw [← e1, ← e2]; exact e
        have h1 := rkM_undo hc (k := i) (by omega)
        have h2 := rkM_undo hc hj
        rw [e', h2] at h1
        have := Option.some.inj h1
        omega
      · intro a ha b hb
        simp at hb
        subst hb
        obtain ⟨i, hi⟩ := List.mem_iff_getElem?.1 ha
        have hil := (List.getElem?_eq_some_iff.1 hi).1
        rintro rfl
        exact hex ⟨i, hil, nth_of hi⟩
    have := Hp.pigeon N.length (N ++ [v]) hnd (fun x hx => by
      rcases List.mem_append.1 hx with h | h
      · obtain ⟨i, hi⟩ := List.mem_iff_getElem?.1 h
        have hil := (List.getElem?_eq_some_iff.1 hi).1
        have := hlt i hil
        rw [nth_of hi] at this
        exact this
      · simp at h; omega)
    simp at this
    omega
/-- the rank of a node. -/
def rankOf (h : Hr) (v : Nat) : Nat := ((rkM h.node)[v]?).getD 0
theorem rank_node {h : Hr} (hc : chk h = (0, [])) {v : Nat} (hv : v < h.node.length) : rankOf h v < h.node.length ∧ (rkM h.node)[v]? = some (rankOf h v) := by
  obtain ⟨k1, k2, k3, k4, k5, k6, k7, k8⟩ := chk_ok hc
  obtain ⟨r, hr, e⟩ := node_has k7 hv
  have := rkM_undo k7 hr
  rw [e] at this
  unfold rankOf
  rw [this]
  exact ⟨hr, rfl⟩
theorem rank_of {h : Hr} (hc : chk h = (0, [])) {r : Nat} (hr : r < h.node.length) : rankOf h (nth h.node r) = r := by
  obtain ⟨k1, k2, k3, k4, k5, k6, k7, k8⟩ := chk_ok hc
  unfold rankOf
  rw [rkM_undo k7 hr]
  rfl
/-- what meet answers of two nodes of a hierarchy in form. -/
def meetL (h : Hr) (s t : Nat) : Option (Nat × Int) := near (upL h (rankOf h s)) (dnL h (rankOf h t))
theorem meet_turn (h : Hr) (s t : Nat) : meetL (turnH h) t s = meetL h s t := by
  unfold meetL
  rw [up_turn, dn_turn, near_symm]
  rfl
theorem meet_self {h : Hr} (hc : chk h = (0, [])) {s : Nat} (hs : s < h.node.length) : meetL h s s = some (rankOf h s, 0) := near_self (rank_node hc hs).1
end Go.Proofs.YtejpjbllonnafaaDoor.Qy

namespace Go.Proofs.YtejpjbllonnafaaDoor.Qy
open Go.RowKit Go.Extern Go.Shelf Hi Cb

attribute [local go_sem] Oper.semAt_some

/-- what is seen, in memory. -/
def HasSn (w : World) (lv : Value) (X : List Sn) : Prop :=
  ∃ ao cap, lv = .slice ao X.length cap ∧ X.length ≤ cap ∧ ∀ (j : Nat) (x : Sn), X[j]? = some x → ∃ b off, ao = some ⟨b, off, none⟩ ∧ b < w.heap.size ∧ w.cell? ⟨b, off + j * 3, none⟩ = some (.int .i64 (x.1 : Int)) ∧ w.cell? ⟨b, off + j * 3 + 1, none⟩ = some (.int .u64 x.2.1) ∧ w.cell? ⟨b, off + j * 3 + 2, none⟩ = some (.bool x.2.2)
theorem HasSn.keep {w w' : World} {lv : Value} {X : List Sn} (h : HasSn w lv X) (hb : Below w.heap.size w w') : HasSn w' lv X := by
  obtain ⟨ao, cap, e, hcap, hc⟩ := h
  refine ⟨ao, cap, e, hcap, fun j a hj => ?_⟩
  obtain ⟨b, off, ea, hl, h0, h1, h2⟩ := hc j a hj
  exact ⟨b, off, ea, Nat.lt_of_lt_of_le hl hb.size, (hb.cell (p := ⟨b, _, none⟩) hl).trans h0, (hb.cell (p := ⟨b, _, none⟩) hl).trans h1, (hb.cell (p := ⟨b, _, none⟩) hl).trans h2⟩
theorem sn_of_own {w : World} {B : Nat} {mo : Option Addr} {mc : Nat} {X : List Sn} (h : w.ownsRow B 87 3 (.slice mo X.length mc) X.length (snv X)) : HasSn w (.slice mo X.length mc) X := by
  rcases h.2 with ⟨e, h0⟩ | ⟨g, cap, cur, e, _, hh, hcap, _⟩
  · injection e with e1 _ e3
    obtain rfl : X = [] := List.eq_nil_of_length_eq_zero h0
    exact ⟨mo, mc, rfl, Nat.zero_le _, fun j x hj => by simp at hj⟩
  · injection e with e1 _ e3
    subst e1 e3
    refine ⟨_, mc, rfl, hcap, fun j x hj => ⟨g, 0, rfl, some_lt hh, ?_⟩⟩
    have hjl := (List.getElem?_eq_some_iff.1 hj).1
    obtain ⟨s0, s1, s2⟩ := snv_get X j x hj
    rw [Nat.zero_add]
    exact ⟨(h.cellAt (j * 3) (by omega)).trans s0, (h.cellAt (j * 3 + 1) (by omega)).trans s1, (h.cellAt (j * 3 + 2) (by omega)).trans s2⟩
theorem sn_nil (w : World) (mo : Option Addr) (mc : Nat) : HasSn w (.slice mo 0 mc) [] := ⟨mo, mc, rfl, Nat.zero_le _, fun j x hj => by simp at hj⟩
theorem Tryd.elemSn : Tryd.prog.underlying 61 = some (.slice (Tryd.prog.elem 61)) := by kernel_rfl
theorem Tryd.sizeSn (w : World) : (sizeOf (Tryd.prog.elem 61)).run Tryd.prog w = .ok 3 w := by kernel_rfl
/-- all but the first. -/
theorem cut_sn (lo : Option Addr) (n cap : Nat) (hj : n + 1 ≤ cap) : ∃ so, (0 < n → ∀ b off, lo = some ⟨b, off, none⟩ → so = some ⟨b, off + 3, none⟩) ∧ ∀ w, (Instr.slice 61 (.slice lo (n + 1) cap) (some (.int .i64 1)) none none).run Tryd.prog w = .ok (.slice so n (cap - 1)) w := by
  refine ⟨if cap = 1 then lo else lo.map (·.add (1 * 3)), fun h b off e => ?_, fun w => ?_⟩
  · rw [if_neg (by omega), e]
    simp [Addr.add]
  · rw [run_slice_l (ht := Tryd.elemSn) (h0 := by omega) (h1 := by omega), Tryd.sizeSn]
    simp only [Result.andThen_ok, sliced]
    rfl
theorem sn_tail {w : World} {lo so : Option Addr} {cap : Nat} {x : Sn} {X : List Sn} (h : HasSn w (.slice lo (x :: X).length cap) (x :: X)) (hso : 0 < X.length → ∀ b off, lo = some ⟨b, off, none⟩ → so = some ⟨b, off + 3, none⟩) : HasSn w (.slice so X.length (cap - 1)) X := by
  obtain ⟨ao, cap', e, hcap, hc⟩ := h
  injection e with e1 e2 e3
  subst e1 e3
  refine ⟨so, cap - 1, rfl, by simp at hcap; omega, fun j y hj => ?_⟩
  have hjl := (List.getElem?_eq_some_iff.1 hj).1
  obtain ⟨b, off, ea, hl, h0, h1, h2⟩ := hc (j + 1) y (by simpa using hj)
  refine ⟨b, off + 3, hso (by omega) b off ea, hl, ?_, ?_, ?_⟩
  · rw [show off + 3 + j * 3 = off + (j + 1) * 3 by omega]; exact h0
  · rw [show off + 3 + j * 3 + 1 = off + (j + 1) * 3 + 1 by omega]; exact h1
  · rw [show off + 3 + j * 3 + 2 = off + (j + 1) * 3 + 2 by omega]; exact h2
theorem HasSn.cap {w : World} {ao : Option Addr} {n cap : Nat} {X : List Sn} (h : HasSn w (.slice ao n cap) X) : n ≤ cap := by
  obtain ⟨_, _, e, h, _⟩ := h
  injection e with _ e1 e2
  omega
theorem HasSn.at {w : World} {ao : Option Addr} {n cap : Nat} {X : List Sn} (h : HasSn w (.slice ao n cap) X) {j : Nat} {x : Sn} (hj : X[j]? = some x) :
    ∃ b off, ao = some ⟨b, off, none⟩ ∧ b < w.heap.size ∧ w.cell? ⟨b, off + j * 3, none⟩ = some (.int .i64 (x.1 : Int)) ∧ w.cell? ⟨b, off + j * 3 + 1, none⟩ = some (.int .u64 x.2.1) ∧ w.cell? ⟨b, off + j * 3 + 2, none⟩ = some (.bool x.2.2) := by
  obtain ⟨ao', cap', e, _, hc⟩ := h
  injection e with e1 e2 e3
  subst e1
  exact hc j x hj
/-- the best meeting, in cells. -/
def bestC : Option (Nat × Int) → Array Value
  | none => #[.int .i64 0, .int .u64 0]
  | some (r, d) => #[.int .i64 (r : Int), .int .u64 d]
def lenV : Value → Nat
  | .slice _ n _ => n
  | _ => 0
/-- while the lists are held against one another. -/
structure NI (w : World) (z : Nat) (p0 q0 : List Sn) (uo uc : _) (dv dc : _) (p q : List Sn) (b : Option (Nat × Int)) (wr : World) : Prop where
  up : ∀ wx, Below w.heap.size w wx → HasSn wx (.slice uo p.length uc) p
  dn : ∀ wx, Below w.heap.size w wx → HasSn wx (.slice dv q.length dc) q
  bel : Below w.heap.size w wr
  bz : wr.heap[z]? = some (.cells #[.int .i64 0, .int .u64 0] 47)
  by_ : wr.heap[z + 1]? = some (.cells (bestC b) 47)
  ran : ∃ f, p.length + q.length ≤ f ∧ nearG f b p q = near p0 q0
  pp : ∀ x ∈ p, 0 ≤ x.2.1 ∧ x.2.1 < 9223372036854775808
  pq : ∀ x ∈ q, 0 ≤ x.2.1 ∧ x.2.1 < 9223372036854775808

theorem ni_ran {b : Option (Nat × Int)} {x y : Sn} {p q : List Sn} {R : Option (Nat × Int)} (h : ∃ f, (x :: p).length + (y :: q).length ≤ f ∧ nearG f b (x :: p) (y :: q) = R) : ∃ f, (if x.1 ≤ y.1 then p else x :: p).length + (if y.1 ≤ x.1 then q else y :: q).length ≤ f ∧ nearG f (bst b x y) (if x.1 ≤ y.1 then p else x :: p) (if y.1 ≤ x.1 then q else y :: q) = R := by
  obtain ⟨f, hf, e⟩ := h
  obtain ⟨g, rfl⟩ : ∃ g, f = g + 1 := ⟨f - 1, by simp at hf; omega⟩
  refine ⟨g, ?_, by rw [nearG] at e; exact e⟩
  simp at hf
  rcases Nat.lt_trichotomy x.1 y.1 with h1 | h1 | h1
  · rw [if_pos (by omega), if_neg (by omega)]; simp; omega
  · rw [if_pos (by omega), if_pos (by omega)]; omega
  · rw [if_neg (by omega), if_pos (by omega)]; simp; omega
theorem near_res {W : World} {z : Nat} {x0 x1 u : Value} {tmps : Array Value} (h1 : W.heap[z]? = some (.cells #[x0, x1] 47)) (t6 : tmps[4]?.getD undef = .pointer (some ⟨z, 0, none⟩)) (t7 : tmps[5]?.getD undef = u) :
    (results Tryd.f18 tmps).run Tryd.prog W = .ok (.tuple #[.agg #[x0, x1], u]) W := by
  have c0 : W.cell? ⟨z, 0, none⟩ = some x0 := by simp [World.cell?, h1]
  have c1 : W.cell? ⟨z, 1, none⟩ = some x1 := by simp [World.cell?, h1]
  simp [results, Tryd.results18, go_sem, t6, t7, c0, c1]
theorem set_two {W : World} {b : Nat} {p q : Value} {T : TypeId} (h : W.heap[b]? = some (.cells #[p, q] T)) (x y : Value) : ((W.setCell ⟨b, 0, none⟩ x).setCell ⟨b, 1, none⟩ y).heap[b]? = some (.cells #[x, y] T) := by
  have hlt := some_lt h
  simp only [World.setCell, Array.getElem?_modify]
  simp [h]
theorem two_cells {w : World} {b : Nat} {T : TypeId} {a0 a1 : Value} (h : w.heap[b]? = some (.cells #[a0, a1] T)) : (w.cell? ⟨b, 0, none⟩ = some a0 ∧ w.cell? ⟨b, 1, none⟩ = some a1) ∧ w.frozen? ⟨b, 0, none⟩ = false ∧ w.frozen? ⟨b, 1, none⟩ = false := by simp [World.cell?, World.frozen?, h]
theorem two_far (W : World) (b k : Nat) (hk : k ≠ b) (x y : Value) : ((W.setCell ⟨b, 0, none⟩ x).setCell ⟨b, 1, none⟩ y).heap[k]? = W.heap[k]? := (Below.heap_setCell _ _ _ _ hk).trans (Below.heap_setCell _ _ _ _ hk)
variable {w : World} {z : Nat} {p0 q0 : List Sn} {uo dv : Option Addr} {uc dc : Nat} {b : Option (Nat × Int)} {wr W5 : World}
/-- a meeting is stored. -/
theorem NI.best {p q : List Sn} (hz : w.heap.size = z) (h : NI w z p0 q0 uo uc dv dc p q b wr) {a0 a1 : Value} (hb : bestC b = #[a0, a1]) (r : Nat) (d : Int) : ((wr.setCell ⟨z + 1, 0, none⟩ (.int .i64 (r : Int))).setCell ⟨z + 1, 1, none⟩ (.int .u64 d)).heap[z + 1]? = some (.cells (bestC (some (r, d))) 47) ∧ ((wr.setCell ⟨z + 1, 0, none⟩ (.int .i64 (r : Int))).setCell ⟨z + 1, 1, none⟩ (.int .u64 d)).heap[z]? = some (.cells #[.int .i64 0, .int .u64 0] 47) ∧ Below w.heap.size w ((wr.setCell ⟨z + 1, 0, none⟩ (.int .i64 (r : Int))).setCell ⟨z + 1, 1, none⟩ (.int .u64 d)) := by
  have g := h.by_
  rw [hb] at g
  exact ⟨set_two g _ _, (two_far wr (z + 1) z (by omega) _ _).trans h.bz, (h.bel.setCell (p := ⟨z + 1, 0, none⟩) (by show w.heap.size ≤ z + 1; omega) _).setCell (p := ⟨z + 1, 1, none⟩) (by show w.heap.size ≤ z + 1; omega) _⟩
theorem NI.below {p q : List Sn} (h : NI w z p0 q0 uo uc dv dc p q b wr) (hb : Below wr.heap.size wr W5) : NI w z p0 q0 uo uc dv dc p q b W5 :=
  ⟨h.up, h.dn, h.bel.trans (hb.mono h.bel.size), (hb.block _ (some_lt h.bz)).trans h.bz, (hb.block _ (some_lt h.by_)).trans h.by_, h.ran, h.pp, h.pq⟩
theorem bestC_two (b : Option (Nat × Int)) : ∃ a0 a1, bestC b = #[a0, a1] := by
  cases b with
  | none => exact ⟨_, _, rfl⟩
  | some rd => obtain ⟨r, d⟩ := rd; exact ⟨_, _, rfl⟩
/-- one step: the up list goes on. -/
theorem NI.left {xr yr : Nat} {xd yd : Int} {xb yb : Bool} {p q : List Sn} {su : Option Addr} (h : NI w z p0 q0 uo uc dv dc ((xr, xd, xb) :: p) ((yr, yd, yb) :: q) b wr) (hlt : xr < yr) (hu : ∀ wx, Below w.heap.size w wx → HasSn wx (.slice su p.length (uc - 1)) p) : NI w z p0 q0 su (uc - 1) dv dc p ((yr, yd, yb) :: q) b wr := by
  have g := ni_ran h.ran
  rw [if_pos (by show xr ≤ yr; omega), if_neg (by show ¬ yr ≤ xr; omega)] at g
  have e : bst b (xr, xd, xb) (yr, yd, yb) = b := by unfold bst; rw [if_neg (by show ¬ xr = yr; omega)]
  rw [e] at g
  exact ⟨hu, h.dn, h.bel, h.bz, h.by_, g, fun x hx => h.pp x (List.mem_cons_of_mem _ hx), h.pq⟩
theorem NI.right {xr yr : Nat} {xd yd : Int} {xb yb : Bool} {p q : List Sn} {sd : Option Addr} (h : NI w z p0 q0 uo uc dv dc ((xr, xd, xb) :: p) ((yr, yd, yb) :: q) b wr) (hlt : yr < xr) (hd : ∀ wx, Below w.heap.size w wx → HasSn wx (.slice sd q.length (dc - 1)) q) : NI w z p0 q0 uo uc sd (dc - 1) ((xr, xd, xb) :: p) q b wr := by
  have g := ni_ran h.ran
  rw [if_neg (by show ¬ xr ≤ yr; omega), if_pos (by show yr ≤ xr; omega)] at g
  have e : bst b (xr, xd, xb) (yr, yd, yb) = b := by unfold bst; rw [if_neg (by show ¬ xr = yr; omega)]
  rw [e] at g
  exact ⟨h.up, hd, h.bel, h.bz, h.by_, g, h.pp, fun x hx => h.pq x (List.mem_cons_of_mem _ hx)⟩
theorem NI.both {xr : Nat} {xd yd : Int} {xb yb : Bool} {p q : List Sn} {su sd : Option Addr} (h : NI w z p0 q0 uo uc dv dc ((xr, xd, xb) :: p) ((xr, yd, yb) :: q) b wr) (hu : ∀ wx, Below w.heap.size w wx → HasSn wx (.slice su p.length (uc - 1)) p) (hd : ∀ wx, Below w.heap.size w wx → HasSn wx (.slice sd q.length (dc - 1)) q) {b' : Option (Nat × Int)} (hb' : bst b (xr, xd, xb) (xr, yd, yb) = b') {W6 : World} (hbel : Below w.heap.size w W6) (hbz : W6.heap[z]? = some (.cells #[.int .i64 0, .int .u64 0] 47)) (hby : W6.heap[z + 1]? = some (.cells (bestC b') 47)) : NI w z p0 q0 su (uc - 1) sd (dc - 1) p q b' W6 := by
  have g := ni_ran h.ran
  rw [if_pos (by show xr ≤ xr; omega), if_pos (by show xr ≤ xr; omega), hb'] at g
  exact ⟨hu, hd, hbel, hbz, hby, g, fun x hx => h.pp x (List.mem_cons_of_mem _ hx), fun x hx => h.pq x (List.mem_cons_of_mem _ hx)⟩

set_option maxRecDepth 100000 in
set_option maxHeartbeats 8000000 in
theorem nearest_calls (uo : Option Addr) (uc : Nat) (dv : Option Addr) (dc : Nat) (p0 q0 : List Sn) (w : World) (hu : HasSn w (.slice uo p0.length uc) p0) (hd : HasSn w (.slice dv q0.length dc) q0) (hp : ∀ x ∈ p0, 0 ≤ x.2.1 ∧ x.2.1 < 9223372036854775808) (hq : ∀ x ∈ q0, 0 ≤ x.2.1 ∧ x.2.1 < 9223372036854775808) (hpl : p0.length ≤ 65536) (hql : q0.length ≤ 65536) :
    Calls Tryd.prog 18 #[.slice uo p0.length uc, .slice dv q0.length dc] w fun e w' => Below w.heap.size w w' ∧ ((near p0 q0 = none ∧ e = .returned (.tuple #[.agg #[.int .i64 0, .int .u64 0], .iface 40 (.int .i64 16)])) ∨ ∃ (r : Nat) (d : Int), near p0 q0 = some (r, d) ∧ e = .returned (.tuple #[.agg #[.int .i64 (r : Int), .int .u64 d], .nilIface])) := by
  obtain ⟨z, hz⟩ : ∃ z, w.heap.size = z := ⟨_, rfl⟩
  obtain ⟨W0, hW0⟩ : ∃ W0, (w.alloc (.cells #[.int .i64 0, .int .u64 0] 47)).alloc (.cells #[.int .i64 0, .int .u64 0] 47) = W0 := ⟨_, rfl⟩
  have hB0 : Below w.heap.size w W0 := by rw [← hW0]; exact ((Below.refl _ w).alloc (Nat.le_refl _) _).alloc (by simp) _
  have h0 : W0.heap[z]? = some (.cells #[.int .i64 0, .int .u64 0] 47) := by
    rw [← hW0, ← hz]; exact (Below.heap_alloc _ _ _ (by simp)).trans (heap_newW _ _)
  have h1 : W0.heap[z + 1]? = some (.cells #[.int .i64 0, .int .u64 0] 47) := by
    have g := heap_newW (w.alloc (.cells #[.int .i64 0, .int .u64 0] 47)) (.cells #[.int .i64 0, .int .u64 0] 47)
    rw [World.size_alloc, hW0, hz] at g
    exact g
  have HN0 : Hid (NI w z p0 q0 uo uc dv dc p0 q0 none W0) := ⟨fun wx hx => hu.keep hx, fun wx hx => hd.keep hx, hB0, h0, h1, ⟨p0.length + q0.length, Nat.le_refl _, rfl⟩, hp, hq⟩
  have HW0 : Hid ((w.alloc (.cells #[.int .i64 0, .int .u64 0] 47)).alloc (.cells #[.int .i64 0, .int .u64 0] 47) = W0) := hW0
  have HZ : Hid (w.heap.size = z) := hz
  clear hW0 hB0 h0 h1 hu hd hp hq
  go_enter Tryd.func18, Tryd.ntmps18
  go_upto_region 2 with fail
  rw [HW0.out]
  go_wp2_with fail
  go_loopw [0, 1, 7] (fun uv qv fv wr => ∃ (uo : Option Addr) (uc : Nat) (dv : Option Addr) (dc : Nat) (p q : List Sn) (b : Option (Nat × Int)), uv = .slice uo p.length uc ∧ qv = .slice dv q.length dc ∧ fv = .bool b.isSome ∧ p.length ≤ 65536 ∧ q.length ≤ 65536 ∧ Hid (NI w z p0 q0 uo uc dv dc p q b wr)) (fun uv qv _ _ => lenV uv + lenV qv)
  case atStart => exact ⟨uo, uc, dv, dc, p0, q0, none, rfl, rfl, rfl, hpl, hql, HN0.out⟩
  case round =>
    obtain ⟨uo, uc, dv, dc, p, q, b, rfl, rfl, rfl, hpl, hql, HN⟩ := hrel
    by_cases hemp : p = [] ∨ q = []
    · obtain ⟨f, _, hf⟩ := HN.out.ran
      rw [nearG_nil f b p q hemp] at hf
      have HR : Hid (b = near p0 q0) := hf
      obtain ⟨P, hP⟩ : ∃ P, p.length = P := ⟨_, rfl⟩
      obtain ⟨Q, hQ⟩ : ∃ Q, q.length = Q := ⟨_, rfl⟩
      have hg : (decide ((P : Int) > 0) = false ∧ decide (0 < P) = false) ∨ ((decide ((P : Int) > 0) = true ∧ decide (0 < P) = true) ∧ decide ((Q : Int) > 0) = false ∧ decide (0 < Q) = false) := by
        have h0 : P = 0 ∨ Q = 0 := by
          rcases hemp with rfl | rfl
          · exact Or.inl hP.symm
          · exact Or.inr hQ.symm
        by_cases h1 : P = 0
        · exact Or.inl ⟨decide_eq_false (by omega), decide_eq_false (by omega)⟩
        · exact Or.inr ⟨⟨decide_eq_true (by omega), decide_eq_true (by omega)⟩, decide_eq_false (by omega), decide_eq_false (by omega)⟩
      rw [hP, hQ]
      obtain ⟨⟨c0, c1⟩, f0, f1⟩ := two_cells HN.out.bz
      clear hf hemp
      cases b with
      | none =>
        rcases hg with ⟨i1, i1'⟩ | ⟨⟨i1, i1'⟩, i2, i2'⟩
        all_goals
          go_wp2
          exact bodyPost_ret (near_res (set_two HN.out.bz _ _) rfl rfl) rfl ⟨(HN.out.bel.setCell (p := ⟨z, 0, none⟩) (by show w.heap.size ≤ z; omega) _).setCell (p := ⟨z, 1, none⟩) (by show w.heap.size ≤ z; omega) _, Or.inl ⟨HR.out.symm, rfl⟩⟩
      | some rd =>
        obtain ⟨r, d⟩ := rd
        have hby : wr.heap[z + 1]? = some (.cells #[.int .i64 (r : Int), .int .u64 d] 47) := HN.out.by_
        obtain ⟨⟨d0, d1⟩, _, _⟩ := two_cells hby
        clear hby
        rcases hg with ⟨i1, i1'⟩ | ⟨⟨i1, i1'⟩, i2, i2'⟩
        all_goals
          go_wp2
          exact bodyPost_ret (near_res (set_two HN.out.bz _ _) rfl rfl) rfl ⟨(HN.out.bel.setCell (p := ⟨z, 0, none⟩) (by show w.heap.size ≤ z; omega) _).setCell (p := ⟨z, 1, none⟩) (by show w.heap.size ≤ z; omega) _, Or.inr ⟨r, d, HR.out.symm, rfl⟩⟩
    · obtain ⟨⟨xr, xd, xb⟩, p1, rfl⟩ : ∃ x p1, p = x :: p1 := by
        cases p with
        | nil => exact absurd (Or.inl rfl) hemp
        | cons x p1 => exact ⟨x, p1, rfl⟩
      obtain ⟨⟨yr, yd, yb⟩, q1, rfl⟩ : ∃ y q1, q = y :: q1 := by
        cases q with
        | nil => exact absurd (Or.inr rfl) hemp
        | cons x p1 => exact ⟨x, p1, rfl⟩
      have hu := HN.out.up wr HN.out.bel
      have hd := HN.out.dn wr HN.out.bel
      obtain ⟨ub, uoff, eu, hul, c0, c1, c2⟩ := hu.at (j := 0) (x := (xr, xd, xb)) rfl
      obtain ⟨db, doff, ed, hdl, d0, d1, d2⟩ := hd.at (j := 0) (x := (yr, yd, yb)) rfl
      rw [Nat.zero_mul, Nat.add_zero] at c0 c1 c2 d0 d1 d2
      obtain ⟨su, hsu, hcutu⟩ := cut_sn uo p1.length uc hu.cap
      obtain ⟨sd, hsd, hcutd⟩ := cut_sn dv q1.length dc hd.cap
      have HTU : Hid (∀ wx, Below w.heap.size w wx → HasSn wx (.slice su p1.length (uc - 1)) p1) := fun wx hx => sn_tail (HN.out.up wx hx) hsu
      have HTD : Hid (∀ wx, Below w.heap.size w wx → HasSn wx (.slice sd q1.length (dc - 1)) q1) := fun wx hx => sn_tail (HN.out.dn wx hx) hsd
      subst eu ed
      obtain ⟨m, hm⟩ : ∃ m, p1.length + 1 = m := ⟨_, rfl⟩
      obtain ⟨k, hk⟩ : ∃ k, q1.length + 1 = k := ⟨_, rfl⟩
      have i1 : decide ((m : Int) > 0) = true := by simp; omega
      have i2 : decide ((k : Int) > 0) = true := by simp; omega
      have i3 : (0 : Int) < (m : Int) := by omega
      have i4 : (0 : Int) < (k : Int) := by omega
      have hxb : 0 ≤ xd ∧ xd < 9223372036854775808 := HN.out.pp (xr, xd, xb) (List.mem_cons_self ..)
      have hyb : 0 ≤ yd ∧ yd < 9223372036854775808 := HN.out.pq (yr, yd, yb) (List.mem_cons_self ..)
      have i5 : IntKind.u64.wrap (xd + yd) = xd + yd := by rw [IntKind.wrap_u64]; omega
      simp only [List.length_cons] at hpl hql ⊢
      rw [hm] at hcutu hpl ⊢
      rw [hk] at hcutd hql ⊢
      clear hu hd hsu hsd hemp
      go_upto_region 4 with fail
      go_region_held3 (fun w' => (w'.cell? ⟨ub, uoff, none⟩ = some (.int .i64 (xr : Int)) ∧ w'.cell? ⟨ub, uoff + 1, none⟩ = some (.int .u64 xd) ∧ w'.cell? ⟨ub, uoff + 2, none⟩ = some (.bool xb)) ∧ w'.cell? ⟨db, doff, none⟩ = some (.int .i64 (yr : Int)) ∧ w'.cell? ⟨db, doff + 1, none⟩ = some (.int .u64 yd) ∧ w'.cell? ⟨db, doff + 2, none⟩ = some (.bool yb)) (go_keep) (fail)
      · obtain ⟨k8, hk8⟩ : ∃ k8, wr.heap.size = k8 := ⟨_, rfl⟩
        obtain ⟨k9, hk9⟩ : ∃ k9, wr.heap.size + 1 = k9 := ⟨_, rfl⟩
        obtain ⟨W5, hW5⟩ : ∃ W5, ((wr.alloc (.cells #[.int .i64 (xr : Int), .int .u64 xd, .bool xb] 87)).alloc (.cells #[.int .i64 (yr : Int), .int .u64 yd, .bool yb] 87)).drew = W5 := ⟨_, rfl⟩
        have HE : Hid (Below wr.heap.size wr W5 ∧ W5.heap[k8]? = some (.cells #[.int .i64 (xr : Int), .int .u64 xd, .bool xb] 87) ∧ W5.heap[k9]? = some (.cells #[.int .i64 (yr : Int), .int .u64 yd, .bool yb] 87)) := by
          have g2 : Below wr.heap.size wr W5 := by rw [← hW5]; exact (((Below.refl _ _).alloc (Nat.le_refl _) _).alloc (by simp) _).drew
          have ga : W5.heap[wr.heap.size]? = some (.cells #[.int .i64 (xr : Int), .int .u64 xd, .bool xb] 87) := by rw [← hW5]; exact (Below.heap_alloc _ _ _ (by simp)).trans (heap_newW _ _)
          have gb : W5.heap[wr.heap.size + 1]? = some (.cells #[.int .i64 (yr : Int), .int .u64 yd, .bool yb] 87) := by
            have g := heap_newW (wr.alloc (.cells #[.int .i64 (xr : Int), .int .u64 xd, .bool xb] 87)) (.cells #[.int .i64 (yr : Int), .int .u64 yd, .bool yb] 87)
            rw [World.size_alloc] at g
            rw [← hW5]
            exact g
          rw [← hk8, ← hk9]
          exact ⟨g2, ga, gb⟩
        have n8 : k8 ≠ z + 1 := by have := some_lt HN.out.by_; omega
        have n8' : z + 1 ≠ k8 := n8.symm
        have n9 : k9 ≠ z + 1 := by have := some_lt HN.out.by_; omega
        have n9' : z + 1 ≠ k9 := n9.symm
        (first | rw [hW5] | skip)
        rw [hk9, hk8]
        clear hk8 hk9 hW5
        have HN5 : Hid (NI w z p0 q0 (some ⟨ub, uoff, none⟩) uc (some ⟨db, doff, none⟩) dc ((xr, xd, xb) :: p1) ((yr, yd, yb) :: q1) b W5) := HN.out.below HE.out.1
        obtain ⟨e0, e1, e2⟩ := three_cells HE.out.2.1
        obtain ⟨g0, g1, g2⟩ := three_cells HE.out.2.2
        rcases Nat.lt_trichotomy xr yr with hlt | hlt | hlt
        · have j1 : ((xr : Int) == (yr : Int)) = false := by simp; omega
          have j2 : decide ((xr : Int) ≤ (yr : Int)) = true := by simp; omega
          have j3 : decide ((yr : Int) ≤ (xr : Int)) = false := by simp; omega
          have j4 : decide (xr ≤ yr) = true := by simp; omega
          have j5 : decide (yr ≤ xr) = false := by simp; omega
          have j6 : (xr == yr) = false := by simp; omega
          go_wp2
          go_roundw
          case rel => exact ⟨su, uc - 1, some ⟨db, doff, none⟩, dc, p1, (yr, yd, yb) :: q1, b, rfl, by rw [List.length_cons, hk], rfl, by omega, by simp; omega, HN5.out.left hlt HTU.out⟩
          case measure => simp [lenV]; omega
        · subst hlt
          have j1 : ((xr : Int) == (xr : Int)) = true := by simp
          have j2 : decide ((xr : Int) ≤ (xr : Int)) = true := by simp
          obtain ⟨b0, b1, hbc⟩ := bestC_two b
          have hby := HN5.out.by_
          cases b with
          | none =>
            obtain ⟨⟨s0, s1⟩, t0, t1⟩ := two_cells (a0 := .int .i64 0) (a1 := .int .u64 0) hby
            have HBB := NI.best HZ.out HN5.out rfl xr (xd + yd)
            have HBB' : Hid (type_of% HBB) := HBB
            clear hby hbc HBB
            go_wp2
            go_roundw
            case rel => exact ⟨su, uc - 1, sd, dc - 1, p1, q1, some (xr, xd + yd), rfl, rfl, rfl, by omega, by omega, HN5.out.both HTU.out HTD.out (by simp [bst]) HBB'.out.2.2 HBB'.out.2.1 HBB'.out.1⟩
            case measure => simp [lenV]; omega
          | some rd =>
            obtain ⟨r, d⟩ := rd
            obtain ⟨⟨s0, s1⟩, t0, t1⟩ := two_cells (a0 := .int .i64 (r : Int)) (a1 := .int .u64 d) hby
            have HBB := NI.best HZ.out HN5.out rfl xr (xd + yd)
            have HBB' : Hid (type_of% HBB) := HBB
            have HBY : Hid (W5.heap[z + 1]? = some (.cells (bestC (some (r, d))) 47)) := hby
            clear hby hbc HBB
            by_cases hsum : xd + yd < d
            · have j3 : decide (xd + yd < d) = true := by simpa using hsum
              go_wp2
              go_roundw
              case rel => exact ⟨su, uc - 1, sd, dc - 1, p1, q1, some (xr, xd + yd), rfl, rfl, rfl, by omega, by omega, HN5.out.both HTU.out HTD.out (by simp [bst, hsum]) HBB'.out.2.2 HBB'.out.2.1 HBB'.out.1⟩
              case measure => simp [lenV]; omega
            · have j3 : decide (xd + yd < d) = false := by simpa using hsum
              go_wp2
              go_roundw
              case rel => exact ⟨su, uc - 1, sd, dc - 1, p1, q1, some (r, d), rfl, rfl, rfl, by omega, by omega, HN5.out.both HTU.out HTD.out (by simp [bst, hsum]) HN5.out.bel HN5.out.bz HBY.out⟩
              case measure => simp [lenV]; omega
        · have j1 : ((xr : Int) == (yr : Int)) = false := by simp; omega
          have j2 : decide ((xr : Int) ≤ (yr : Int)) = false := by simp; omega
          have j3 : decide ((yr : Int) ≤ (xr : Int)) = true := by simp; omega
          have j4 : decide (xr ≤ yr) = false := by simp; omega
          have j5 : decide (yr ≤ xr) = true := by simp; omega
          have j6 : (xr == yr) = false := by simp; omega
          go_wp2
          go_roundw
          case rel => exact ⟨some ⟨ub, uoff, none⟩, uc, sd, dc - 1, (xr, xd, xb) :: p1, q1, b, by rw [List.length_cons, hm], rfl, rfl, by simp; omega, by omega, HN5.out.right hlt HTD.out⟩
          case measure => simp [lenV]; omega
      · obtain ⟨k8, hk8⟩ : ∃ k8, wr.heap.size + 1 = k8 := ⟨_, rfl⟩
        obtain ⟨k9, hk9⟩ : ∃ k9, wr.heap.size = k9 := ⟨_, rfl⟩
        obtain ⟨W5, hW5⟩ : ∃ W5, ((wr.alloc (.cells #[.int .i64 (yr : Int), .int .u64 yd, .bool yb] 87)).alloc (.cells #[.int .i64 (xr : Int), .int .u64 xd, .bool xb] 87)).drew = W5 := ⟨_, rfl⟩
        have HE : Hid (Below wr.heap.size wr W5 ∧ W5.heap[k8]? = some (.cells #[.int .i64 (xr : Int), .int .u64 xd, .bool xb] 87) ∧ W5.heap[k9]? = some (.cells #[.int .i64 (yr : Int), .int .u64 yd, .bool yb] 87)) := by
          have g2 : Below wr.heap.size wr W5 := by rw [← hW5]; exact (((Below.refl _ _).alloc (Nat.le_refl _) _).alloc (by simp) _).drew
          have ga : W5.heap[wr.heap.size]? = some (.cells #[.int .i64 (yr : Int), .int .u64 yd, .bool yb] 87) := by rw [← hW5]; exact (Below.heap_alloc _ _ _ (by simp)).trans (heap_newW _ _)
          have gb : W5.heap[wr.heap.size + 1]? = some (.cells #[.int .i64 (xr : Int), .int .u64 xd, .bool xb] 87) := by
            have g := heap_newW (wr.alloc (.cells #[.int .i64 (yr : Int), .int .u64 yd, .bool yb] 87)) (.cells #[.int .i64 (xr : Int), .int .u64 xd, .bool xb] 87)
            rw [World.size_alloc] at g
            rw [← hW5]
            exact g
          rw [← hk8, ← hk9]
          exact ⟨g2, gb, ga⟩
        have n8 : k8 ≠ z + 1 := by have := some_lt HN.out.by_; omega
        have n8' : z + 1 ≠ k8 := n8.symm
        have n9 : k9 ≠ z + 1 := by have := some_lt HN.out.by_; omega
        have n9' : z + 1 ≠ k9 := n9.symm
        (first | rw [hW5] | skip)
        rw [hk8, hk9]
        clear hk8 hk9 hW5
        have HN5 : Hid (NI w z p0 q0 (some ⟨ub, uoff, none⟩) uc (some ⟨db, doff, none⟩) dc ((xr, xd, xb) :: p1) ((yr, yd, yb) :: q1) b W5) := HN.out.below HE.out.1
        obtain ⟨e0, e1, e2⟩ := three_cells HE.out.2.1
        obtain ⟨g0, g1, g2⟩ := three_cells HE.out.2.2
        rcases Nat.lt_trichotomy xr yr with hlt | hlt | hlt
        · have j1 : ((xr : Int) == (yr : Int)) = false := by simp; omega
          have j2 : decide ((xr : Int) ≤ (yr : Int)) = true := by simp; omega
          have j3 : decide ((yr : Int) ≤ (xr : Int)) = false := by simp; omega
          have j4 : decide (xr ≤ yr) = true := by simp; omega
          have j5 : decide (yr ≤ xr) = false := by simp; omega
          have j6 : (xr == yr) = false := by simp; omega
          go_wp2
          go_roundw
          case rel => exact ⟨su, uc - 1, some ⟨db, doff, none⟩, dc, p1, (yr, yd, yb) :: q1, b, rfl, by rw [List.length_cons, hk], rfl, by omega, by simp; omega, HN5.out.left hlt HTU.out⟩
          case measure => simp [lenV]; omega
        · subst hlt
          have j1 : ((xr : Int) == (xr : Int)) = true := by simp
          have j2 : decide ((xr : Int) ≤ (xr : Int)) = true := by simp
          obtain ⟨b0, b1, hbc⟩ := bestC_two b
          have hby := HN5.out.by_
          cases b with
          | none =>
            obtain ⟨⟨s0, s1⟩, t0, t1⟩ := two_cells (a0 := .int .i64 0) (a1 := .int .u64 0) hby
            have HBB := NI.best HZ.out HN5.out rfl xr (xd + yd)
            have HBB' : Hid (type_of% HBB) := HBB
            clear hby hbc HBB
            go_wp2
            go_roundw
            case rel => exact ⟨su, uc - 1, sd, dc - 1, p1, q1, some (xr, xd + yd), rfl, rfl, rfl, by omega, by omega, HN5.out.both HTU.out HTD.out (by simp [bst]) HBB'.out.2.2 HBB'.out.2.1 HBB'.out.1⟩
            case measure => simp [lenV]; omega
          | some rd =>
            obtain ⟨r, d⟩ := rd
            obtain ⟨⟨s0, s1⟩, t0, t1⟩ := two_cells (a0 := .int .i64 (r : Int)) (a1 := .int .u64 d) hby
            have HBB := NI.best HZ.out HN5.out rfl xr (xd + yd)
            have HBB' : Hid (type_of% HBB) := HBB
            have HBY : Hid (W5.heap[z + 1]? = some (.cells (bestC (some (r, d))) 47)) := hby
            clear hby hbc HBB
            by_cases hsum : xd + yd < d
            · have j3 : decide (xd + yd < d) = true := by simpa using hsum
              go_wp2
              go_roundw
              case rel => exact ⟨su, uc - 1, sd, dc - 1, p1, q1, some (xr, xd + yd), rfl, rfl, rfl, by omega, by omega, HN5.out.both HTU.out HTD.out (by simp [bst, hsum]) HBB'.out.2.2 HBB'.out.2.1 HBB'.out.1⟩
              case measure => simp [lenV]; omega
            · have j3 : decide (xd + yd < d) = false := by simpa using hsum
              go_wp2
              go_roundw
              case rel => exact ⟨su, uc - 1, sd, dc - 1, p1, q1, some (r, d), rfl, rfl, rfl, by omega, by omega, HN5.out.both HTU.out HTD.out (by simp [bst, hsum]) HN5.out.bel HN5.out.bz HBY.out⟩
              case measure => simp [lenV]; omega
        · have j1 : ((xr : Int) == (yr : Int)) = false := by simp; omega
          have j2 : decide ((xr : Int) ≤ (yr : Int)) = false := by simp; omega
          have j3 : decide ((yr : Int) ≤ (xr : Int)) = true := by simp; omega
          have j4 : decide (xr ≤ yr) = false := by simp; omega
          have j5 : decide (yr ≤ xr) = true := by simp; omega
          have j6 : (xr == yr) = false := by simp; omega
          go_wp2
          go_roundw
          case rel => exact ⟨some ⟨ub, uoff, none⟩, uc, sd, dc - 1, (xr, xd, xb) :: p1, q1, b, by rw [List.length_cons, hm], rfl, rfl, by simp; omega, by omega, HN5.out.right hlt HTD.out⟩
          case measure => simp [lenV]; omega
end Go.Proofs.YtejpjbllonnafaaDoor.Qy

namespace Go.Proofs.YtejpjbllonnafaaDoor.Qy
open Go.RowKit Go.Extern Go.Shelf Hi Cb

attribute [local go_sem] Oper.semAt_some

/-- two nodes of a hierarchy in form. -/
def Nodes (h : Hr) (s t : Int) : Prop := chk h = (0, []) ∧ (0 ≤ s ∧ s < (h.node.length : Int)) ∧ (0 ≤ t ∧ t < (h.node.length : Int))
/-- the error of a question. -/
def qErr (h : Hr) (s t : Int) : Int × List (Int × Int) :=
  if chk h ≠ (0, []) then chk h else if ¬ (0 ≤ s ∧ s < (h.node.length : Int)) then (7, [(3, 0)]) else if ¬ (0 ≤ t ∧ t < (h.node.length : Int)) then (7, [(3, 1)]) else if meetL h s.toNat t.toNat = none then (16, []) else (0, [])
theorem qErr_chk {h : Hr} {s t : Int} (hc : chk h ≠ (0, [])) : qErr h s t = chk h := by unfold qErr; rw [if_pos hc]
theorem qErr_s {h : Hr} {s t : Int} (hc : chk h = (0, [])) (g : ¬ (0 ≤ s ∧ s < (h.node.length : Int))) : qErr h s t = (7, [(3, 0)]) := by unfold qErr; rw [if_neg (by simp [hc]), if_pos g]
theorem qErr_t {h : Hr} {s t : Int} (hc : chk h = (0, [])) (g1 : 0 ≤ s ∧ s < (h.node.length : Int)) (g : ¬ (0 ≤ t ∧ t < (h.node.length : Int))) : qErr h s t = (7, [(3, 1)]) := by unfold qErr; rw [if_neg (by simp [hc]), if_neg (fun q => q g1), if_pos g]
theorem qErr_no {h : Hr} {s t : Int} (hn : Nodes h s t) (g : meetL h s.toNat t.toNat = none) : qErr h s t = (16, []) := by unfold qErr; rw [if_neg (by simp [hn.1]), if_neg (fun q => q hn.2.1), if_neg (fun q => q hn.2.2), if_pos g]
theorem qErr_ok {h : Hr} {s t : Int} (hn : Nodes h s t) {x : Nat × Int} (g : meetL h s.toNat t.toNat = some x) : qErr h s t = (0, []) := by unfold qErr; rw [if_neg (by simp [hn.1]), if_neg (fun q => q hn.2.1), if_neg (fun q => q hn.2.2), if_neg (by simp [g])]
set_option maxRecDepth 100000 in
set_option maxHeartbeats 4000000 in
theorem ends_ok (v : HV) (h : Hr) (s t : Nat) (w : World) (hH : HasH w v h) (hc : chk h = (0, [])) (hs : s < h.node.length) (ht : t < h.node.length) :
    Calls Tryd.prog 15 #[hvl v h, .int .i64 (s : Int), .int .i64 (t : Int)] w fun e w' => e = .returned (.tuple #[.int .i64 (rankOf h s : Int), .int .i64 (rankOf h t : Int), .nilIface]) ∧ Below w.heap.size w w' := by
  obtain ⟨k1, k2, k3, k4, k5, k6, k7, k8⟩ := chk_ok hc
  obtain ⟨z, hz⟩ : ∃ z, w.heap.size = z := ⟨_, rfl⟩
  obtain ⟨W0, hW0⟩ : ∃ W0, w.alloc (.cells (cellsH v h) 26) = W0 := ⟨_, rfl⟩
  have hB0 : Below w.heap.size w W0 := by rw [← hW0]; exact (Below.refl _ _).alloc (Nat.le_refl _) _
  have h0 : W0.heap[z]? = some (.cells (cellsH v h) 26) := by rw [← hW0, ← hz]; exact heap_newW _ _
  obtain ⟨c0, c1, c2, c3, c4⟩ := five_cells h0
  have HRK : Hid (Calls Tryd.prog 25 #[hvl v h] W0 fun e w' => ∃ lo c, e = .returned (.tuple #[.slice lo h.node.length c, .nilIface]) ∧ HasInts w' (.slice lo h.node.length c) (intsL (rkM h.node)) ∧ Below W0.heap.size W0 w') := ranks_ok (hH.keep hB0) hc
  have HW0 : Hid (w.alloc (.cells (cellsH v h) 26) = W0) := hW0
  have HB0 : Hid (Below w.heap.size w W0) := hB0
  have e1 := (rank_node hc hs).2
  have e2 := (rank_node hc ht).2
  have HE : Hid ((intsL (rkM h.node))[s]? = some (rankOf h s : Int) ∧ (intsL (rkM h.node))[t]? = some (rankOf h t : Int)) := by
    unfold intsL
    rw [List.getElem?_map, List.getElem?_map, e1, e2]
    exact ⟨rfl, rfl⟩
  obtain ⟨n, hn⟩ : ∃ n, h.node.length = n := ⟨_, rfl⟩
  clear hW0 h0 hB0 hH hc e1 e2 k2 k3 k4 k5 k6 k7 k8
  unfold cellsH at HW0
  unfold hvl at HRK ⊢
  rw [hn] at HRK HW0 c0 hs ht k1 ⊢
  clear hn
  generalize rankOf h s = rs at *
  generalize rankOf h t = rt at *
  go_enter Tryd.func15, Tryd.ntmps15
  go_wp2_with fail
  rw [HW0.out]
  refine HRK.out.mono ?_
  rintro e w1 ⟨lo, lc, rfl, hI, hb1⟩
  have H1 : Hid (∀ wx, Below w1.heap.size w1 wx → HasInts wx (.slice lo n lc) (intsL (rkM h.node)) ∧ Below w.heap.size w wx) := fun wx hx => ⟨hI.keep hx, HB0.out.trans ((hb1.trans (hx.mono hb1.size)).mono HB0.out.size)⟩
  clear hI hb1 c0 c1 c2 c3 c4
  go_wp2_with fail
  obtain ⟨y, hy⟩ : ∃ y, w1.heap.size = y := ⟨_, rfl⟩
  obtain ⟨W2, hW2⟩ : ∃ W2, w1.alloc (.cells #[.int .i64 (s : Int), .int .i64 (t : Int)] 3) = W2 := ⟨_, rfl⟩
  have H2 : Hid (W2.heap[y]? = some (.cells #[.int .i64 (s : Int), .int .i64 (t : Int)] 3) ∧ Below w1.heap.size w1 W2) := by
    constructor
    · rw [← hW2, ← hy]; exact heap_newW _ _
    · rw [← hW2]; exact (Below.refl _ _).alloc (Nat.le_refl _) _
  rw [hW2, hy]
  clear hy hW2
  obtain ⟨⟨d0, d1⟩, _⟩ : (W2.cell? ⟨y, 0, none⟩ = some (.int .i64 (s : Int)) ∧ W2.cell? ⟨y, 1, none⟩ = some (.int .i64 (t : Int))) ∧ True := by simp [World.cell?, H2.out.1]
  go_loopw [25] (fun iv wr => ∃ j : Nat, j ≤ 2 ∧ iv = .int .i64 j ∧ wr = W2) (fun iv _ => 2 - (intOf iv).toNat)
  case atStart => exact ⟨0, by omega, rfl, rfl⟩
  case round =>
    obtain ⟨j, hj, rfl, rfl⟩ := hrel
    rcases (show j = 0 ∨ j = 1 ∨ j = 2 by omega) with rfl | rfl | rfl
    · have i1 : decide ((s : Int) < 0) = false := by simp
      have i2 : decide ((n : Int) ≤ (s : Int)) = false := by simp; omega
      go_wp2
      go_roundw
      case rel => exact ⟨1, by omega, by go_num, by first | rfl | trivial⟩
      case measure => simp [intOf]
    · have i1 : decide ((t : Int) < 0) = false := by simp
      have i2 : decide ((n : Int) ≤ (t : Int)) = false := by simp; omega
      go_wp2
      go_roundw
      case rel => exact ⟨2, by omega, by go_num, by first | rfl | trivial⟩
      case measure => simp [intOf]
    · obtain ⟨b1, o1, e1, _, g1⟩ := (H1.out wr H2.out.2).1.at HE.out.1
      obtain ⟨b2, o2, e2, _, g2⟩ := (H1.out wr H2.out.2).1.at HE.out.2
      subst e1
      cases e2
      have i1 : (s : Int) < (n : Int) := by omega
      have i2 : (0 : Int) ≤ (s : Int) := by omega
      have i3 : (t : Int) < (n : Int) := by omega
      have i4 : (0 : Int) ≤ (t : Int) := by omega
      go_wp2_with fail
      go_quiet (fail)
      go_wp2
      go_ret3
      have g := (H1.out wr H2.out.2).2
      exact ⟨rfl, ⟨g.os, g.tape, g.output, g.size, g.block⟩⟩

set_option maxRecDepth 100000 in
set_option maxHeartbeats 4000000 in
theorem ends_bad (v : HV) (h : Hr) (s t : Int) (w : World) (hH : HasH w v h) (hb1 : h.up.length ≤ 1152921504606846976) (hb2 : h.dn.length ≤ 1152921504606846976) (hb3 : h.node.length ≤ 1152921504606846976) (hno : ¬ Nodes h s t) :
    Calls Tryd.prog 15 #[hvl v h, .int .i64 s, .int .i64 t] w fun e w' => ∃ T x, e = .returned (.tuple #[.int .i64 0, .int .i64 0, .iface T x]) ∧ IsTold w' (qErr h s t) (.iface T x) ∧ Below w.heap.size w w' := by
  obtain ⟨z, hz⟩ : ∃ z, w.heap.size = z := ⟨_, rfl⟩
  obtain ⟨W0, hW0⟩ : ∃ W0, w.alloc (.cells (cellsH v h) 26) = W0 := ⟨_, rfl⟩
  have hB0 : Below w.heap.size w W0 := by rw [← hW0]; exact (Below.refl _ _).alloc (Nat.le_refl _) _
  have h0 : W0.heap[z]? = some (.cells (cellsH v h) 26) := by rw [← hW0, ← hz]; exact heap_newW _ _
  obtain ⟨c0, c1, c2, c3, c4⟩ := five_cells h0
  have HRK := ranks_calls v h W0 (hH.keep hB0) hb1 hb2 hb3
  have HRK' : Hid (type_of% HRK) := HRK
  have HW0 : Hid (w.alloc (.cells (cellsH v h) 26) = W0) := hW0
  have HB0 : Hid (Below w.heap.size w W0) := hB0
  have HNO : Hid (¬ Nodes h s t) := hno
  clear HRK hW0 h0 hB0 hH hno
  unfold cellsH at HW0
  unfold hvl at HRK' ⊢
  go_enter Tryd.func15, Tryd.ntmps15
  go_wp2_with fail
  rw [HW0.out]
  refine HRK'.out.mono ?_
  rintro e w1 ⟨lo, kk, lc, u, R, rfl, hb, hI, _, hh⟩
  have H1 : Hid (Below w.heap.size w w1) := HB0.out.trans (hb.mono HB0.out.size)
  clear c0 c1 c2 c3 c4 hb
  rcases hh with ⟨hc, rfl, rfl⟩ | ⟨hc, rfl, ht⟩
  · have hkk : kk = h.node.length := by
      obtain ⟨_, _, e, _⟩ := hI
      injection e with _ e _
      rw [e]
      unfold intsL
      rw [List.length_map, rkM_len]
    subst hkk
    obtain ⟨n, hn⟩ : ∃ n, h.node.length = n := ⟨_, rfl⟩
    have hno2 : ¬ ((0 ≤ s ∧ s < (n : Int)) ∧ (0 ≤ t ∧ t < (n : Int))) := fun g => HNO.out ⟨hc, by rw [hn]; exact g⟩
    rw [hn]
    have HQ1 : Hid (¬ (0 ≤ s ∧ s < (n : Int)) → qErr h s t = (7, [(3, 0)])) := fun g => qErr_s hc (by rw [hn]; exact g)
    have HQ2 : Hid ((0 ≤ s ∧ s < (n : Int)) → ¬ (0 ≤ t ∧ t < (n : Int)) → qErr h s t = (7, [(3, 1)])) := fun g1 g => qErr_t hc (by rw [hn]; exact g1) (by rw [hn]; exact g)
    clear hI hc hn HNO HRK'
    go_wp2_with fail
    obtain ⟨y, hy⟩ : ∃ y, w1.heap.size = y := ⟨_, rfl⟩
    obtain ⟨W2, hW2⟩ : ∃ W2, w1.alloc (.cells #[.int .i64 s, .int .i64 t] 3) = W2 := ⟨_, rfl⟩
    have H2 : Hid (W2.heap[y]? = some (.cells #[.int .i64 s, .int .i64 t] 3) ∧ Below w1.heap.size w1 W2) := by
      constructor
      · rw [← hW2, ← hy]; exact heap_newW _ _
      · rw [← hW2]; exact (Below.refl _ _).alloc (Nat.le_refl _) _
    rw [hW2, hy]
    clear hy hW2
    obtain ⟨⟨d0, d1⟩, _⟩ : (W2.cell? ⟨y, 0, none⟩ = some (.int .i64 s) ∧ W2.cell? ⟨y, 1, none⟩ = some (.int .i64 t)) ∧ True := by simp [World.cell?, H2.out.1]
    have HEND : Hid (∀ wx, Below W2.heap.size W2 wx → Below w.heap.size w wx) := fun wx hx => H1.out.trans ((H2.out.2.trans (hx.mono H2.out.2.size)).mono H1.out.size)
    go_loopw [25] (fun iv wr => ∃ j : Nat, j ≤ 1 ∧ iv = .int .i64 j ∧ wr = W2 ∧ (j = 1 → 0 ≤ s ∧ s < (n : Int))) (fun iv _ => 2 - (intOf iv).toNat)
    case atStart => exact ⟨0, by omega, rfl, rfl, fun e => by omega⟩
    case round =>
      obtain ⟨j, hj, rfl, rfl, hjs⟩ := hrel
      rcases (show j = 0 ∨ j = 1 by omega) with rfl | rfl
      · by_cases g : 0 ≤ s ∧ s < (n : Int)
        · have i1 : decide (s < 0) = false := by simp; omega
          have i2 : decide ((n : Int) ≤ s) = false := by simp; omega
          go_wp2
          go_roundw
          case rel => exact ⟨1, by omega, by go_num, by first | rfl | trivial, fun _ => g⟩
          case measure => simp [intOf]
        · by_cases g0 : s < 0
          · have i1 : decide (s < 0) = true := by simpa using g0
            go_wp2_with (go_at_call 26; refine (at_some _ _ _ _ _).mono ?_; rintro e w3 ⟨rfl, hw3⟩; have H3 : Hid (Below wr.heap.size wr w3) := (by rw [hw3]; exact (Below.refl _ _).alloc (Nat.le_refl _) _); have HT3 : Hid (IsTold w3 (7, [((3 : Int), (0 : Int))]) (.iface 52 (.pointer (some ⟨wr.heap.size, 0, none⟩)))) := (by rw [hw3]; exact told_at _ (by decide)); clear hw3)
            go_ret3
            exact ⟨_, _, rfl, by rw [HQ1.out g]; exact HT3.out, HEND.out _ H3.out⟩
          · have i1 : decide (s < 0) = false := by simpa using g0
            have i2 : decide ((n : Int) ≤ s) = true := by simp; omega
            go_wp2_with (go_at_call 26; refine (at_some _ _ _ _ _).mono ?_; rintro e w3 ⟨rfl, hw3⟩; have H3 : Hid (Below wr.heap.size wr w3) := (by rw [hw3]; exact (Below.refl _ _).alloc (Nat.le_refl _) _); have HT3 : Hid (IsTold w3 (7, [((3 : Int), (0 : Int))]) (.iface 52 (.pointer (some ⟨wr.heap.size, 0, none⟩)))) := (by rw [hw3]; exact told_at _ (by decide)); clear hw3)
            go_ret3
            exact ⟨_, _, rfl, by rw [HQ1.out g]; exact HT3.out, HEND.out _ H3.out⟩
      · have g : ¬ (0 ≤ t ∧ t < (n : Int)) := fun g => hno2 ⟨hjs rfl, g⟩
        have HJS : Hid (0 ≤ s ∧ s < (n : Int)) := hjs rfl
        by_cases g0 : t < 0
        · have i1 : decide (t < 0) = true := by simpa using g0
          go_wp2_with (go_at_call 26; refine (at_some _ _ _ _ _).mono ?_; rintro e w3 ⟨rfl, hw3⟩; have H3 : Hid (Below wr.heap.size wr w3) := (by rw [hw3]; exact (Below.refl _ _).alloc (Nat.le_refl _) _); have HT3 : Hid (IsTold w3 (7, [((3 : Int), (1 : Int))]) (.iface 52 (.pointer (some ⟨wr.heap.size, 0, none⟩)))) := (by rw [hw3]; exact told_at _ (by decide)); clear hw3)
          go_ret3
          exact ⟨_, _, rfl, by rw [HQ2.out HJS.out g]; exact HT3.out, HEND.out _ H3.out⟩
        · have i1 : decide (t < 0) = false := by simpa using g0
          have i2 : decide ((n : Int) ≤ t) = true := by simp; omega
          go_wp2_with (go_at_call 26; refine (at_some _ _ _ _ _).mono ?_; rintro e w3 ⟨rfl, hw3⟩; have H3 : Hid (Below wr.heap.size wr w3) := (by rw [hw3]; exact (Below.refl _ _).alloc (Nat.le_refl _) _); have HT3 : Hid (IsTold w3 (7, [((3 : Int), (1 : Int))]) (.iface 52 (.pointer (some ⟨wr.heap.size, 0, none⟩)))) := (by rw [hw3]; exact told_at _ (by decide)); clear hw3)
          go_ret3
          exact ⟨_, _, rfl, by rw [HQ2.out HJS.out g]; exact HT3.out, HEND.out _ H3.out⟩
  · obtain ⟨tt, xx, hu1, _⟩ := isTold_some ht hc
    subst hu1
    have HTT : Hid (IsTold w1 (qErr h s t) (.iface tt xx)) := by rw [qErr_chk hc]; exact ht
    clear ht hI
    go_wp2
    go_ret3
    exact ⟨tt, xx, rfl, HTT.out, H1.out⟩
end Go.Proofs.YtejpjbllonnafaaDoor.Qy

namespace Go.Proofs.YtejpjbllonnafaaDoor.Qy
open Go.RowKit Go.Extern Go.Shelf Hi Cb

attribute [local go_sem] Oper.semAt_some

theorem low_relaxs' {d : Int} {r : Nat} (hd : 0 ≤ d ∧ d ≤ (r : Int) * 140737488355328) : ∀ (row : List Lk) (vs : List (Option Int)), (∀ l ∈ row, r < l.hd ∧ l.wt ≤ 140737488355328) → Low vs → Low (relaxs d row vs)
  | [], vs, _, h => h
  | l :: t, vs, hr, h => by
    obtain ⟨h1, h2⟩ := hr l (List.mem_cons_self ..)
    exact low_relaxs' hd t (relax vs l.hd (d + l.wt)) (fun x hx => hr x (List.mem_cons_of_mem _ hx)) (low_relax h (by omega))
theorem run_low (N : Nat) (row : Nat → List Lk) (hrow : ∀ r, r < N → ∀ l ∈ row r, r < l.hd ∧ l.wt ≤ 140737488355328) : ∀ (m r : Nat) (vs : List (Option Int)) (out : List (Nat × Int)), r + m ≤ N → Low vs → (∀ x ∈ out, 0 ≤ x.2 ∧ x.2 ≤ (x.1 : Int) * 140737488355328) → ∀ x ∈ (run row m r vs out).2, 0 ≤ x.2 ∧ x.2 ≤ (x.1 : Int) * 140737488355328
  | 0, r, vs, out, _, _, ho, x, hx => ho x hx
  | m + 1, r, vs, out, hm, hv, ho, x, hx => by
    rw [run] at hx
    split at hx
    · rename_i d hd
      refine run_low N row hrow m (r + 1) _ _ (by omega) (low_relaxs' (hv _ _ hd) _ _ (hrow r (by omega)) hv) (fun y hy => ?_) x hx
      rcases List.mem_append.1 hy with h | h
      · exact ho y h
      · simp at h
        subst h
        exact hv _ _ hd
    · exact run_low N row hrow m (r + 1) _ _ (by omega) hv ho x hx
theorem climbed_bounds {n s : Nat} (hn : n ≤ 65536) (a b : Nat → List Lk) (ha : ∀ r, r < n → ∀ l ∈ a r, r < l.hd ∧ l.hd < n ∧ l.wt ≤ 140737488355328) : ∀ x ∈ climbed n s a b, 0 ≤ x.2.1 ∧ x.2.1 < 9223372036854775808 := by
  intro x hx
  unfold climbed at hx
  simp only at hx
  obtain ⟨y, hy, rfl⟩ := List.mem_map.1 hx
  have g := run_low n a (fun r hr l hl => ⟨(ha r hr l hl).1, (ha r hr l hl).2.2⟩) n 0 (Cb.start n s) [] (by omega) (low_start n s) (fun x hx => by simp at hx) y hy
  have g2 := run_out a n 0 (Cb.start n s) [] y hy
  have g3 : y.1 < n := by
    rcases g2 with g2 | g2
    · simp at g2
    · omega
  simp only
  omega
theorem climbed_len (n s : Nat) (a b : Nat → List Lk) : (climbed n s a b).length ≤ n := by
  unfold climbed
  rw [List.length_map]
  have := run_len a n 0 (Cb.start n s) []
  simpa using this
theorem up_bounds {h : Hr} (hc : chk h = (0, [])) (r : Nat) : (∀ x ∈ upL h r, 0 ≤ x.2.1 ∧ x.2.1 < 9223372036854775808) ∧ (upL h r).length ≤ 65536 := by
  have k1 := (chk_ok hc).1
  exact ⟨climbed_bounds k1 _ _ (fun r hr l hl => row_form hc hr (Or.inl hl)), Nat.le_trans (climbed_len _ _ _ _) k1⟩
theorem dn_bounds {h : Hr} (hc : chk h = (0, [])) (r : Nat) : (∀ x ∈ dnL h r, 0 ≤ x.2.1 ∧ x.2.1 < 9223372036854775808) ∧ (dnL h r).length ≤ 65536 := by
  have k1 := (chk_ok hc).1
  exact ⟨climbed_bounds k1 _ _ (fun r hr l hl => row_form hc hr (Or.inr hl)), Nat.le_trans (climbed_len _ _ _ _) k1⟩
/-- what meet answers. -/
def MR (h : Hr) (s t : Int) (r : Nat) (d : Int) (u : Value) : Prop :=
  (Nodes h s t ∧ meetL h s.toNat t.toNat = some (r, d) ∧ u = .nilIface) ∨ ((¬ Nodes h s t ∨ meetL h s.toNat t.toNat = none) ∧ r = 0 ∧ d = 0 ∧ ∃ T x, u = .iface T x)
theorem keeps_set2 {w : World} {b : Nat} {x y : Value} (h : w.heap[b]? = some (.cells #[x, y] 47)) (u v : Value) : Keeps w ((w.setCell ⟨b, 0, none⟩ u).setCell ⟨b, 1, none⟩ v) := fun k c hk => by
  have hne : k ≠ b := fun e => by
    subst e
    rw [h] at hk
    simp at hk
  exact (Below.heap_setCell _ _ _ _ hne).trans ((Below.heap_setCell _ _ _ _ hne).trans hk)
theorem meet_res {W : World} {z : Nat} {x0 x1 u : Value} {tmps : Array Value} (h1 : W.heap[z]? = some (.cells #[x0, x1] 47)) (t6 : tmps[6]?.getD undef = .pointer (some ⟨z, 0, none⟩)) (t7 : tmps[7]?.getD undef = u) :
    (results Tryd.f11 tmps).run Tryd.prog W = .ok (.tuple #[.agg #[x0, x1], u]) W := by
  have c0 : W.cell? ⟨z, 0, none⟩ = some x0 := by simp [World.cell?, h1]
  have c1 : W.cell? ⟨z, 1, none⟩ = some x1 := by simp [World.cell?, h1]
  simp [results, Tryd.results11, go_sem, t6, t7, c0, c1]
set_option maxRecDepth 100000 in
set_option maxHeartbeats 4000000 in
theorem meet_calls (v : HV) (h : Hr) (s t : Int) (w : World) (hH : HasH w v h) (hb1 : h.up.length ≤ 1152921504606846976) (hb2 : h.dn.length ≤ 1152921504606846976) (hb3 : h.node.length ≤ 1152921504606846976) :
    Calls Tryd.prog 11 #[hvl v h, .int .i64 s, .int .i64 t] w fun e w' => ∃ (r : Nat) (d : Int) (u : Value), (MR h s t r d u ∧ IsTold w' (qErr h s t) u) ∧ e = .returned (.tuple #[.agg #[.int .i64 (r : Int), .int .u64 d], u]) ∧ Below w.heap.size w w' := by
  obtain ⟨z, hz⟩ : ∃ z, w.heap.size = z := ⟨_, rfl⟩
  obtain ⟨W0, hW0⟩ : ∃ W0, (w.alloc (.cells (cellsH v h) 26)).alloc (.cells #[.int .i64 0, .int .u64 0] 47) = W0 := ⟨_, rfl⟩
  have hB0 : Below w.heap.size w W0 := by rw [← hW0]; exact ((Below.refl _ w).alloc (Nat.le_refl _) _).alloc (by simp) _
  have h0 : W0.heap[z]? = some (.cells (cellsH v h) 26) := by
    rw [← hW0, ← hz]; exact (Below.heap_alloc _ _ _ (by simp)).trans (heap_newW _ _)
  have h1 : W0.heap[z + 1]? = some (.cells #[.int .i64 0, .int .u64 0] 47) := by
    have g := heap_newW (w.alloc (.cells (cellsH v h) 26)) (.cells #[.int .i64 0, .int .u64 0] 47)
    rw [World.size_alloc, hW0, hz] at g
    exact g
  have HQ : Hid (∀ wx, Below W0.heap.size W0 wx → (wx.cell? ⟨z, 0, none⟩ = some (.slice v.no h.node.length v.nc) ∧ wx.cell? ⟨z, 1, none⟩ = some (.slice v.uo h.upF.length v.uc) ∧ wx.cell? ⟨z, 2, none⟩ = some (.slice v.ul h.up.length v.ulc) ∧ wx.cell? ⟨z, 3, none⟩ = some (.slice v.wo h.dnF.length v.wc) ∧ wx.cell? ⟨z, 4, none⟩ = some (.slice v.dl h.dn.length v.dlc)) ∧ wx.heap[z + 1]? = some (.cells #[.int .i64 0, .int .u64 0] 47) ∧ HasH wx v h ∧ Below w.heap.size w wx) := fun wx hx => by
    have g := hB0.trans (hx.mono hB0.size)
    exact ⟨five_cells ((hx.block _ (some_lt h0)).trans h0), (hx.block _ (some_lt h1)).trans h1, hH.keep g, g⟩
  have HEND : Hid (∀ wx, Below W0.heap.size W0 wx → ∀ x y : Value, ((wx.setCell ⟨z + 1, 0, none⟩ x).setCell ⟨z + 1, 1, none⟩ y).heap[z + 1]? = some (.cells #[x, y] 47) ∧ Below w.heap.size w ((wx.setCell ⟨z + 1, 0, none⟩ x).setCell ⟨z + 1, 1, none⟩ y)) := fun wx hx x y => ⟨set_two (HQ.out wx hx).2.1 x y, ((HQ.out wx hx).2.2.2.setCell (p := ⟨z + 1, 0, none⟩) (by show w.heap.size ≤ z + 1; omega) _).setCell (p := ⟨z + 1, 1, none⟩) (by show w.heap.size ≤ z + 1; omega) _⟩
  have HW0 : Hid ((w.alloc (.cells (cellsH v h) 26)).alloc (.cells #[.int .i64 0, .int .u64 0] 47) = W0) := hW0
  have HB0 : Hid (Below W0.heap.size W0 W0) := Below.refl _ _
  obtain ⟨⟨c0, c1, c2, c3, c4⟩, _⟩ := HQ.out W0 HB0.out
  clear hW0 h0 h1 hB0 hH
  unfold cellsH at HW0
  by_cases hn : Nodes h s t
  · obtain ⟨hc, hs, ht⟩ := hn
    obtain ⟨s', rfl⟩ : ∃ s' : Nat, s = (s' : Int) := ⟨s.toNat, by omega⟩
    obtain ⟨t', rfl⟩ : ∃ t' : Nat, t = (t' : Int) := ⟨t.toNat, by omega⟩
    have hs' : s' < h.node.length := by omega
    have ht' : t' < h.node.length := by omega
    have HND : Hid (Nodes h (s' : Int) (t' : Int)) := ⟨hc, hs, ht⟩
    have r1 := (rank_node hc hs').1
    have r2 := (rank_node hc ht').1
    obtain ⟨X, hX⟩ : ∃ X, upL h (rankOf h s') = X := ⟨_, rfl⟩
    obtain ⟨Y, hY⟩ : ∃ Y, dnL h (rankOf h t') = Y := ⟨_, rfl⟩
    have bX := up_bounds hc (rankOf h s')
    have bY := dn_bounds hc (rankOf h t')
    rw [hX] at bX
    rw [hY] at bY
    have HML : Hid (meetL h s' t' = near X Y) := by show _ = _; unfold meetL; rw [hX, hY]
    have K1 : Hid (∀ wx, Below W0.heap.size W0 wx → Calls Tryd.prog 15 #[hvl v h, .int .i64 (s' : Int), .int .i64 (t' : Int)] wx fun e w' => e = .returned (.tuple #[.int .i64 (rankOf h s' : Int), .int .i64 (rankOf h t' : Int), .nilIface]) ∧ Below wx.heap.size wx w') := fun wx hx => ends_ok v h s' t' wx (HQ.out wx hx).2.2.1 hc hs' ht'
    have K2 : Hid (∀ wx, Below W0.heap.size W0 wx → Calls Tryd.prog 16 #[hvl v h, .int .i64 (rankOf h s' : Int)] wx fun e w' => ∃ mo mc, e = .returned (.tuple #[.slice mo X.length mc, .nilIface]) ∧ w'.ownsRow wx.heap.size 87 3 (.slice mo X.length mc) X.length (snv X) ∧ Below wx.heap.size wx w') := fun wx hx => (up_ok v h _ wx (HQ.out wx hx).2.2.1 hc r1).mono (by rintro e w' ⟨mo, mc, X', e1, rfl, a, b⟩; rw [hX] at e1; subst e1; exact ⟨mo, mc, rfl, a, b⟩)
    have K3 : Hid (∀ wx, Below W0.heap.size W0 wx → Calls Tryd.prog 17 #[hvl v h, .int .i64 (rankOf h t' : Int)] wx fun e w' => ∃ mo mc, e = .returned (.tuple #[.slice mo Y.length mc, .nilIface]) ∧ w'.ownsRow wx.heap.size 87 3 (.slice mo Y.length mc) Y.length (snv Y) ∧ Below wx.heap.size wx w') := fun wx hx => (down_ok v h _ wx (HQ.out wx hx).2.2.1 hc r2).mono (by rintro e w' ⟨mo, mc, X', e1, rfl, a, b⟩; rw [hY] at e1; subst e1; exact ⟨mo, mc, rfl, a, b⟩)
    have HBD : Hid (((∀ x ∈ X, 0 ≤ x.2.1 ∧ x.2.1 < 9223372036854775808) ∧ X.length ≤ 65536) ∧ (∀ x ∈ Y, 0 ≤ x.2.1 ∧ x.2.1 < 9223372036854775808) ∧ Y.length ≤ 65536) := ⟨bX, bY⟩
    generalize rankOf h s' = rs at *
    generalize rankOf h t' = rt at *
    clear hc hs ht hs' ht' r1 r2 hX hY bX bY
    unfold hvl at K1 K2 K3 ⊢
    go_enter Tryd.func11, Tryd.ntmps11
    go_upto_region 1 with fail
    rw [HW0.out]
    go_wp2_with fail
    refine (K1.out W0 HB0.out).mono ?_
    rintro e w1 ⟨rfl, hbb1⟩
    have HB1 : Hid (Below W0.heap.size W0 w1) := btrH HB0.out hbb1
    clear hbb1 c0 c1 c2 c3 c4
    obtain ⟨⟨c0, c1, c2, c3, c4⟩, _⟩ := HQ.out w1 HB1.out
    go_wp2_with fail
    refine (K2.out w1 HB1.out).mono ?_
    rintro e w2 ⟨m2, c22, rfl, ho2, hbb2⟩
    have HB2 : Hid (Below W0.heap.size W0 w2) := btrH HB1.out hbb2
    have O2 : Hid (w2.ownsRow w1.heap.size 87 3 (.slice m2 X.length c22) X.length (snv X)) := ho2
    clear hbb2 ho2 c0 c1 c2 c3 c4
    obtain ⟨⟨c0, c1, c2, c3, c4⟩, _⟩ := HQ.out w2 HB2.out
    go_wp2_with fail
    refine (K3.out w2 HB2.out).mono ?_
    rintro e w3 ⟨m3, c33, rfl, ho3, hbb3⟩
    have HB3 : Hid (Below W0.heap.size W0 w3) := btrH HB2.out hbb3
    have HSX : Hid (HasSn w3 (.slice m2 X.length c22) X ∧ HasSn w3 (.slice m3 Y.length c33) Y) := ⟨(sn_of_own O2.out).keep hbb3, sn_of_own ho3⟩
    clear hbb3 ho3 c0 c1 c2 c3 c4
    go_wp2_with fail
    refine (nearest_calls m2 c22 m3 c33 X Y w3 HSX.out.1 HSX.out.2 HBD.out.1.1 HBD.out.2.1 HBD.out.1.2 HBD.out.2.2).mono ?_
    rintro e w4 ⟨hbb4, hcase⟩
    have HB4 : Hid (Below W0.heap.size W0 w4) := btrH HB3.out hbb4
    obtain ⟨⟨d0, d1⟩, f0, f1⟩ := two_cells (HQ.out w4 HB4.out).2.1
    rcases hcase with ⟨hnr, rfl⟩ | ⟨r, d, hnr, rfl⟩
    · have HNR : Hid (meetL h s' t' = none) := by show _ = _; rw [HML.out]; exact hnr
      clear hbb4 hnr
      go_wp2
      exact bodyPost_ret (meet_res (HEND.out w4 HB4.out _ _).1 rfl rfl) rfl ⟨0, 0, .iface 40 (.int .i64 16), ⟨Or.inr ⟨Or.inr HNR.out, rfl, rfl, _, _, rfl⟩, by rw [qErr_no HND.out HNR.out]; exact told_num _ (by decide)⟩, rfl, (HEND.out w4 HB4.out _ _).2⟩
    · have HNR : Hid (meetL h s' t' = some (r, d)) := by show _ = _; rw [HML.out]; exact hnr
      clear hbb4 hnr
      go_wp2
      exact bodyPost_ret (meet_res (HEND.out w4 HB4.out _ _).1 rfl rfl) rfl ⟨r, d, .nilIface, ⟨Or.inl ⟨HND.out, HNR.out, rfl⟩, by rw [qErr_ok HND.out HNR.out]; exact told_no _⟩, rfl, (HEND.out w4 HB4.out _ _).2⟩
  · have K1 : Hid (∀ wx, Below W0.heap.size W0 wx → Calls Tryd.prog 15 #[hvl v h, .int .i64 s, .int .i64 t] wx fun e w' => ∃ T x, e = .returned (.tuple #[.int .i64 0, .int .i64 0, .iface T x]) ∧ IsTold w' (qErr h s t) (.iface T x) ∧ Below wx.heap.size wx w') := fun wx hx => ends_bad v h s t wx (HQ.out wx hx).2.2.1 hb1 hb2 hb3 hn
    have HND : Hid (¬ Nodes h s t) := hn
    clear hn
    unfold hvl at K1 ⊢
    go_enter Tryd.func11, Tryd.ntmps11
    go_upto_region 1 with fail
    rw [HW0.out]
    go_wp2_with fail
    refine (K1.out W0 HB0.out).mono ?_
    rintro e w1 ⟨T, xx, rfl, htt, hbb1⟩
    have HTT : Hid (IsTold w1 (qErr h s t) (.iface T xx)) := htt
    clear htt
    have HB1 : Hid (Below W0.heap.size W0 w1) := btrH HB0.out hbb1
    obtain ⟨⟨d0, d1⟩, f0, f1⟩ := two_cells (HQ.out w1 HB1.out).2.1
    clear hbb1 c0 c1 c2 c3 c4
    go_wp2
    exact bodyPost_ret (meet_res (HEND.out w1 HB1.out _ _).1 rfl rfl) rfl ⟨0, 0, .iface T xx, ⟨Or.inr ⟨Or.inl HND.out, rfl, rfl, T, xx, rfl⟩, HTT.out.keep (keeps_set2 (HQ.out w1 HB1.out).2.1 _ _)⟩, rfl, (HEND.out w1 HB1.out _ _).2⟩
end Go.Proofs.YtejpjbllonnafaaDoor.Qy

namespace Go.Proofs.YtejpjbllonnafaaDoor.Qy
open Go.RowKit Go.Extern Go.Shelf Hi Cb

attribute [local go_sem] Oper.semAt_some

set_option maxRecDepth 100000 in
set_option maxHeartbeats 4000000 in
theorem dist_calls (v : HV) (h : Hr) (s t : Int) (w : World) (hH : HasH w v h) (hb1 : h.up.length ≤ 1152921504606846976) (hb2 : h.dn.length ≤ 1152921504606846976) (hb3 : h.node.length ≤ 1152921504606846976) :
    Calls Tryd.prog 6 #[hvl v h, .int .i64 s, .int .i64 t] w fun e w' => ∃ (r : Nat) (d : Int) (u : Value), (MR h s t r d u ∧ IsTold w' (qErr h s t) u) ∧ e = .returned (.tuple #[.int .u64 d, u]) ∧ Below w.heap.size w w' := by
  obtain ⟨z, hz⟩ : ∃ z, w.heap.size = z := ⟨_, rfl⟩
  obtain ⟨W0, hW0⟩ : ∃ W0, w.alloc (.cells (cellsH v h) 26) = W0 := ⟨_, rfl⟩
  have hB0 : Below w.heap.size w W0 := by rw [← hW0]; exact (Below.refl _ w).alloc (Nat.le_refl _) _
  have h0 : W0.heap[z]? = some (.cells (cellsH v h) 26) := by rw [← hW0, ← hz]; exact heap_newW _ _
  obtain ⟨c0, c1, c2, c3, c4⟩ := five_cells h0
  have HW0 : Hid (w.alloc (.cells (cellsH v h) 26) = W0) := hW0
  have HB0 : Hid (Below w.heap.size w W0) := hB0
  have HME : Hid (Calls Tryd.prog 11 #[hvl v h, .int .i64 s, .int .i64 t] W0 fun e w' => ∃ (r : Nat) (d : Int) (u : Value), (MR h s t r d u ∧ IsTold w' (qErr h s t) u) ∧ e = .returned (.tuple #[.agg #[.int .i64 (r : Int), .int .u64 d], u]) ∧ Below W0.heap.size W0 w') := meet_calls v h s t W0 (hH.keep hB0) hb1 hb2 hb3
  clear hW0 h0 hB0 hH
  unfold cellsH at HW0
  unfold hvl at HME ⊢
  go_enter Tryd.func6, Tryd.ntmps6
  go_wp2_with fail
  rw [HW0.out]
  refine HME.out.mono ?_
  rintro e w1 ⟨r, d, u, hm, rfl, hb⟩
  have H1 : Hid ((MR h s t r d u ∧ IsTold w1 (qErr h s t) u) ∧ Below w.heap.size w w1) := ⟨hm, HB0.out.trans (hb.mono HB0.out.size)⟩
  clear hm hb
  go_wp2
  go_ret2
  exact ⟨r, d, u, ⟨H1.out.1.1, H1.out.1.2.keep (Below.keeps ((Below.refl _ _).alloc (Nat.le_refl _) _))⟩, rfl, H1.out.2.alloc H1.out.2.size _⟩

set_option maxRecDepth 100000 in
set_option maxHeartbeats 4000000 in
theorem meetR_calls (v : HV) (h : Hr) (s t : Int) (w : World) (hH : HasH w v h) (hb1 : h.up.length ≤ 1152921504606846976) (hb2 : h.dn.length ≤ 1152921504606846976) (hb3 : h.node.length ≤ 1152921504606846976) :
    Calls Tryd.prog 7 #[hvl v h, .int .i64 s, .int .i64 t] w fun e w' => ∃ (r : Nat) (d : Int) (u : Value), (MR h s t r d u ∧ IsTold w' (qErr h s t) u) ∧ e = .returned (.tuple #[.int .i64 (r : Int), u]) ∧ Below w.heap.size w w' := by
  obtain ⟨z, hz⟩ : ∃ z, w.heap.size = z := ⟨_, rfl⟩
  obtain ⟨W0, hW0⟩ : ∃ W0, w.alloc (.cells (cellsH v h) 26) = W0 := ⟨_, rfl⟩
  have hB0 : Below w.heap.size w W0 := by rw [← hW0]; exact (Below.refl _ w).alloc (Nat.le_refl _) _
  have h0 : W0.heap[z]? = some (.cells (cellsH v h) 26) := by rw [← hW0, ← hz]; exact heap_newW _ _
  obtain ⟨c0, c1, c2, c3, c4⟩ := five_cells h0
  have HW0 : Hid (w.alloc (.cells (cellsH v h) 26) = W0) := hW0
  have HB0 : Hid (Below w.heap.size w W0) := hB0
  have HME : Hid (Calls Tryd.prog 11 #[hvl v h, .int .i64 s, .int .i64 t] W0 fun e w' => ∃ (r : Nat) (d : Int) (u : Value), (MR h s t r d u ∧ IsTold w' (qErr h s t) u) ∧ e = .returned (.tuple #[.agg #[.int .i64 (r : Int), .int .u64 d], u]) ∧ Below W0.heap.size W0 w') := meet_calls v h s t W0 (hH.keep hB0) hb1 hb2 hb3
  clear hW0 h0 hB0 hH
  unfold cellsH at HW0
  unfold hvl at HME ⊢
  go_enter Tryd.func7, Tryd.ntmps7
  go_wp2_with fail
  rw [HW0.out]
  refine HME.out.mono ?_
  rintro e w1 ⟨r, d, u, hm, rfl, hb⟩
  have H1 : Hid ((MR h s t r d u ∧ IsTold w1 (qErr h s t) u) ∧ Below w.heap.size w w1) := ⟨hm, HB0.out.trans (hb.mono HB0.out.size)⟩
  clear hm hb
  go_wp2
  go_ret2
  exact ⟨r, d, u, ⟨H1.out.1.1, H1.out.1.2.keep (Below.keeps ((Below.refl _ _).alloc (Nat.le_refl _) _))⟩, rfl, H1.out.2.alloc H1.out.2.size _⟩

theorem meet_three : meetL three 0 2 = some (2, 5) ∧ meetL three 0 1 = some (1, 4) := by
  constructor <;> kernel_rfl
theorem mr_yes {h : Hr} {s t : Nat} (hc : chk h = (0, [])) (hs : s < h.node.length) (ht : t < h.node.length) {r0 : Nat} {d0 : Int} (hm : meetL h s t = some (r0, d0)) {r : Nat} {d : Int} {u : Value} (g : MR h (s : Int) (t : Int) r d u) : r = r0 ∧ d = d0 ∧ u = .nilIface := by
  have hn : Nodes h (s : Int) (t : Int) := ⟨hc, by omega, by omega⟩
  rcases g with ⟨_, e, hu⟩ | ⟨g, _⟩
  · rw [Int.toNat_natCast, Int.toNat_natCast, hm] at e
    have := Option.some.inj e
    simp only [Prod.mk.injEq] at this
    exact ⟨this.1.symm, this.2.symm, hu⟩
  · rcases g with g | g
    · exact absurd hn g
    · rw [Int.toNat_natCast, Int.toNat_natCast, hm] at g
      cases g
set_option maxRecDepth 100000 in
set_option maxHeartbeats 4000000 in
theorem awake21_calls (w : World) : Calls Tryd.prog 4 #[] w fun e w' => e = .returned (.bool true) ∧ Below w.heap.size w w' := by
  have HT : Hid (∀ wx : World, Calls Tryd.prog 5 #[] wx fun e w' => ∃ v, e = .returned (hvl v three) ∧ HasH w' v three ∧ Below wx.heap.size wx w') := fun wx => three_calls wx
  have HD : Hid (∀ wx v, HasH wx v three → Calls Tryd.prog 6 #[hvl v three, .int .i64 0, .int .i64 2] wx fun e w' => e = .returned (.tuple #[.int .u64 5, .nilIface]) ∧ Below wx.heap.size wx w') := fun wx v hv => (dist_calls v three 0 2 wx hv (by decide) (by decide) (by decide)).mono (by
    rintro e w' ⟨r, d, u, hm, rfl, hb⟩
    obtain ⟨rfl, rfl, rfl⟩ := mr_yes (s := 0) (t := 2) chk_three (by decide) (by decide) meet_three.1 hm.1
    exact ⟨rfl, hb⟩)
  have HM : Hid (∀ wx v, HasH wx v three → Calls Tryd.prog 7 #[hvl v three, .int .i64 0, .int .i64 1] wx fun e w' => e = .returned (.tuple #[.int .i64 1, .nilIface]) ∧ Below wx.heap.size wx w') := fun wx v hv => (meetR_calls v three 0 1 wx hv (by decide) (by decide) (by decide)).mono (by
    rintro e w' ⟨r, d, u, hm, rfl, hb⟩
    obtain ⟨rfl, rfl, rfl⟩ := mr_yes (s := 0) (t := 1) chk_three (by decide) (by decide) meet_three.2 hm.1
    exact ⟨rfl, hb⟩)
  go_enter Tryd.func4, Tryd.ntmps4
  go_wp2_with fail
  refine (HT.out w).mono ?_
  rintro e w1 ⟨v1, rfl, hH1, hb1⟩
  have H1 : Hid (HasH w1 v1 three ∧ Below w.heap.size w w1) := ⟨hH1, hb1⟩
  clear hH1 hb1
  go_wp2_with fail
  refine (HD.out w1 v1 H1.out.1).mono ?_
  rintro e w2 ⟨rfl, hb2⟩
  have H2 : Hid (Below w.heap.size w w2) := H1.out.2.trans (hb2.mono H1.out.2.size)
  clear hb2
  go_wp2_with fail
  refine (HT.out w2).mono ?_
  rintro e w3 ⟨v3, rfl, hH3, hb3⟩
  have H3 : Hid (HasH w3 v3 three ∧ Below w.heap.size w w3) := ⟨hH3, H2.out.trans (hb3.mono H2.out.size)⟩
  clear hH3 hb3
  go_wp2_with fail
  refine (HM.out w3 v3 H3.out.1).mono ?_
  rintro e w4 ⟨rfl, hb4⟩
  have H4 : Hid (Below w.heap.size w w4) := H3.out.2.trans (hb4.mono H3.out.2.size)
  clear hb4
  go_wp2
  go_ret
  exact ⟨rfl, H4.out⟩
end Go.Proofs.YtejpjbllonnafaaDoor.Qy
