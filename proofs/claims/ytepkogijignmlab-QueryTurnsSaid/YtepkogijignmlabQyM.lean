/- where two lists of ranks meet: plain mathematics. -/
import Derived.Test.YtepkogijignmlabCbF
import Derived.Test.YtepkogijignmlabHrR
import Derived.Test.YtepkogijignmlabHpA
namespace Go.Proofs.Ytepkogijignmlab.Qy
open Hi Cb

abbrev Sn := Nat × Int × Bool
/-- the better meeting. -/
def bst (b : Option (Nat × Int)) (x y : Sn) : Option (Nat × Int) := if x.1 = y.1 then (match b with
  | none => some (x.1, x.2.1 + y.2.1)
  | some (r, d) => if x.2.1 + y.2.1 < d then some (x.1, x.2.1 + y.2.1) else some (r, d)) else b
def nearG : Nat → Option (Nat × Int) → List Sn → List Sn → Option (Nat × Int)
  | f + 1, b, x :: p, y :: q => nearG f (bst b x y) (if x.1 ≤ y.1 then p else x :: p) (if y.1 ≤ x.1 then q else y :: q)
  | _, b, _, _ => b
def near (p q : List Sn) : Option (Nat × Int) := nearG (p.length + q.length) none p q
theorem bst_symm (b : Option (Nat × Int)) (x y : Sn) : bst b x y = bst b y x := by
  unfold bst
  by_cases h : x.1 = y.1
  · rw [if_pos h, if_pos h.symm, Int.add_comm, h]
  · rw [if_neg h, if_neg (fun e => h e.symm)]
theorem nearG_symm : ∀ (f : Nat) (b : Option (Nat × Int)) (p q : List Sn), nearG f b p q = nearG f b q p
  | 0, b, p, q => by cases p <;> cases q <;> rfl
  | f + 1, b, [], q => by cases q <;> rfl
  | f + 1, b, x :: p, [] => rfl
  | f + 1, b, x :: p, y :: q => by
    rw [nearG, nearG, bst_symm, nearG_symm f]
theorem near_symm (p q : List Sn) : near p q = near q p := by unfold near; rw [nearG_symm, Nat.add_comm]
theorem nearG_nil (f : Nat) (b : Option (Nat × Int)) (p q : List Sn) (h : p = [] ∨ q = []) : nearG f b p q = b := by
  rcases h with rfl | rfl
  · cases f <;> rfl
  · cases f <;> cases p <;> rfl
/-- a meeting at 0 is not bettered. -/
theorem nearG_zero (r : Nat) : ∀ (f : Nat) (p q : List Sn), (∀ x ∈ p, 0 ≤ x.2.1) → (∀ x ∈ q, 0 ≤ x.2.1) → nearG f (some (r, 0)) p q = some (r, 0)
  | 0, p, q, _, _ => by cases p <;> cases q <;> rfl
  | f + 1, [], q, _, _ => by cases q <;> rfl
  | f + 1, x :: p, [], _, _ => rfl
  | f + 1, x :: p, y :: q, hp, hq => by
    have h1 := hp x (List.mem_cons_self ..)
    have h2 := hq y (List.mem_cons_self ..)
    have e : bst (some (r, 0)) x y = some (r, 0) := by
      unfold bst
      split
      · simp only
        rw [if_neg (by omega)]
      · rfl
    rw [nearG, e]
    refine nearG_zero r f _ _ (fun z hz => ?_) (fun z hz => ?_)
    · split at hz
      · exact hp z (List.mem_cons_of_mem _ hz)
      · exact hp z hz
    · split at hz
      · exact hq z (List.mem_cons_of_mem _ hz)
      · exact hq z hz
/-- lengths are no less than 0. -/
theorem low_relaxs {d : Int} (hd : 0 ≤ d) : ∀ (row : List Lk) (vs : List (Option Int)), (∀ (x : Nat) (k : Int), vs[x]? = some (some k) → 0 ≤ k) → ∀ (x : Nat) (k : Int), (relaxs d row vs)[x]? = some (some k) → 0 ≤ k
  | [], vs, h, x, k, hk => h x k hk
  | l :: r, vs, h, x, k, hk => by
    refine low_relaxs hd r (relax vs l.hd (d + l.wt)) (fun y j hj => ?_) x k hk
    by_cases e : y = l.hd
    · subst e
      have hlt : l.hd < vs.length := by have := (List.getElem?_eq_some_iff.1 hj).1; rwa [relax_len] at this
      obtain ⟨k2, h2, h3⟩ := relax_at (d := d + l.wt) hlt
      rw [h2] at hj
      obtain rfl : k2 = j := by simpa using hj
      rcases h3 with rfl | h3
      · omega
      · exact h _ k2 h3
    · rw [relax_other e] at hj
      exact h y j hj
theorem run_pos (row : Nat → List Lk) : ∀ (m r : Nat) (vs : List (Option Int)) (out : List (Nat × Int)), (∀ (x : Nat) (k : Int), vs[x]? = some (some k) → 0 ≤ k) → (∀ x ∈ out, 0 ≤ x.2) → ∀ x ∈ (run row m r vs out).2, 0 ≤ x.2
  | 0, r, vs, out, _, ho, x, hx => ho x hx
  | m + 1, r, vs, out, hv, ho, x, hx => by
    rw [run] at hx
    split at hx
    · rename_i d hd
      refine run_pos row m (r + 1) _ _ (low_relaxs (hv _ _ hd) _ _ hv) (fun y hy => ?_) x hx
      rcases List.mem_append.1 hy with h | h
      · exact ho y h
      · simp at h
        subst h
        exact hv _ _ hd
    · exact run_pos row m (r + 1) _ _ hv ho x hx
theorem run_prefix (row : Nat → List Lk) : ∀ (m r : Nat) (vs : List (Option Int)) (out : List (Nat × Int)), ∃ t, (run row m r vs out).2 = out ++ t
  | 0, r, vs, out => ⟨[], by simp [run]⟩
  | m + 1, r, vs, out => by
    rw [run]
    split
    · rename_i d hd
      obtain ⟨t, ht⟩ := run_prefix row m (r + 1) (relaxs d (row r) vs) (out ++ [(r, d)])
      exact ⟨(r, d) :: t, by rw [ht, List.append_assoc]; rfl⟩
    · exact run_prefix row m (r + 1) vs out
theorem climbed_head {n s : Nat} (hs : s < n) (a b : Nat → List Lk) : ∃ bb t, climbed n s a b = (s, 0, bb) :: t ∧ ∀ x ∈ climbed n s a b, 0 ≤ x.2.1 := by
  have h0 : (Cb.start n s)[s]? = some (some 0) := by unfold Cb.start; simp [hs]
  have hn : ∀ y, 0 ≤ y → y < s → (Cb.start n s)[y]? = some none ∨ (Cb.start n s)[y]? = none := fun y _ hy => by
    unfold Cb.start
    rw [List.getElem?_set_ne (by omega), List.getElem?_replicate]
    split
    · exact Or.inl rfl
    · exact Or.inr rfl
  have e := run_take a (vs := Cb.start n s) (out := []) (n := n) (r := 0) (x := s) (d := 0) (Nat.zero_le _) hs h0 hn
  rw [Nat.sub_zero] at e
  obtain ⟨t, ht⟩ := run_prefix a (n - (s + 1)) (s + 1) (relaxs 0 (a s) (Cb.start n s)) ([] ++ [(s, 0)])
  have e2 : (run a n 0 (Cb.start n s) []).2 = (s, 0) :: t := by rw [e, ht]; rfl
  refine ⟨stalled (run a n 0 (Cb.start n s) []).1 (b s) 0, t.map fun x => (x.1, x.2, stalled (run a n 0 (Cb.start n s) []).1 (b x.1) x.2), ?_, fun x hx => ?_⟩
  · unfold climbed
    simp only
    rw [e2]
    rfl
  · unfold climbed at hx
    simp only at hx
    obtain ⟨y, hy, rfl⟩ := List.mem_map.1 hx
    exact run_pos a n 0 (Cb.start n s) [] (fun x k hk => (low_start n s x k hk).1) (fun x hx => by simp at hx) y hy
/-- from a rank to itself. -/
theorem near_self {h : Hr} {r : Nat} (hr : r < h.node.length) : near (upL h r) (dnL h r) = some (r, 0) := by
  obtain ⟨b1, t1, e1, p1⟩ := climbed_head hr (rowL h.upF h.up) (rowL h.dnF h.dn)
  obtain ⟨b2, t2, e2, p2⟩ := climbed_head hr (rowL h.dnF h.dn) (rowL h.upF h.up)
  unfold upL dnL near
  rw [e1] at p1
  rw [e2] at p2
  rw [e1, e2]
  have e3 : bst none (r, 0, b1) (r, 0, b2) = some (r, 0) := by simp [bst]
  rw [List.length_cons, Nat.succ_add, nearG, e3]
  exact nearG_zero r _ _ _ (fun x hx => by
    simp at hx
    exact p1 x (List.mem_cons_of_mem _ hx)) (fun x hx => by
    simp at hx
    exact p2 x (List.mem_cons_of_mem _ hx))
theorem nth_list : ∀ (N : List Nat), N = (List.range N.length).map (nth N) := fun N => by
  apply List.ext_getElem?
  intro i
  rw [List.getElem?_map]
  by_cases hi : i < N.length
  · rw [List.getElem?_range hi, nth_get hi]; rfl
  · rw [List.getElem?_eq_none (by omega), List.getElem?_eq_none (by simp; omega)]; rfl
/-- every node has a rank. -/
theorem node_has {N : List Nat} (hc : cn N = (0, [])) {v : Nat} (hv : v < N.length) : ∃ r, r < N.length ∧ nth N r = v := by
  by_cases hex : ∃ r, r < N.length ∧ nth N r = v
  · exact hex
  · exfalso
    have hlt : ∀ r, r < N.length → nth N r < N.length := fun r hr => (cn_ok hc hr).1
    have hnd : (N ++ [v]).Nodup := by
      rw [List.nodup_append]
      refine ⟨?_, by simp, ?_⟩
      · unfold List.Nodup
        rw [List.pairwise_iff_getElem]
        intro i j hi hj hij e
        have e1 : N[i] = nth N i := by have := nth_get hi; rw [List.getElem?_eq_getElem hi] at this; exact Option.some.inj this
        have e2 : N[j] = nth N j := by have := nth_get hj; rw [List.getElem?_eq_getElem hj] at this; exact Option.some.inj this
        have e' : nth N i = nth N j := by rw [← e1, ← e2]; exact e
        have h1 := rkM_undo hc (k := i) (by omega)
        have h2 := rkM_undo hc hj
        rw [e', h2] at h1
        have := Option.some.inj h1
        omega
      · intro a ha b hb
        simp at hb
        subst hb
        obtain ⟨i, hi⟩ := List.mem_iff_getElem?.1 ha
        have hil := (List.getElem?_eq_some_iff.1 hi).1
        rintro rfl
        exact hex ⟨i, hil, nth_of hi⟩
    have := Hp.pigeon N.length (N ++ [v]) hnd (fun x hx => by
      rcases List.mem_append.1 hx with h | h
      · obtain ⟨i, hi⟩ := List.mem_iff_getElem?.1 h
        have hil := (List.getElem?_eq_some_iff.1 hi).1
        have := hlt i hil
        rw [nth_of hi] at this
        exact this
      · simp at h; omega)
    simp at this
    omega
/-- the rank of a node. -/
def rankOf (h : Hr) (v : Nat) : Nat := ((rkM h.node)[v]?).getD 0
theorem rank_node {h : Hr} (hc : chk h = (0, [])) {v : Nat} (hv : v < h.node.length) : rankOf h v < h.node.length ∧ (rkM h.node)[v]? = some (rankOf h v) := by
  obtain ⟨k1, k2, k3, k4, k5, k6, k7, k8⟩ := chk_ok hc
  obtain ⟨r, hr, e⟩ := node_has k7 hv
  have := rkM_undo k7 hr
  rw [e] at this
  unfold rankOf
  rw [this]
  exact ⟨hr, rfl⟩
theorem rank_of {h : Hr} (hc : chk h = (0, [])) {r : Nat} (hr : r < h.node.length) : rankOf h (nth h.node r) = r := by
  obtain ⟨k1, k2, k3, k4, k5, k6, k7, k8⟩ := chk_ok hc
  unfold rankOf
  rw [rkM_undo k7 hr]
  rfl
/-- what meet answers of two nodes of a hierarchy in form. -/
def meetL (h : Hr) (s t : Nat) : Option (Nat × Int) := near (upL h (rankOf h s)) (dnL h (rankOf h t))
theorem meet_turn (h : Hr) (s t : Nat) : meetL (turnH h) t s = meetL h s t := by
  unfold meetL
  rw [up_turn, dn_turn, near_symm]
  rfl
theorem meet_self {h : Hr} (hc : chk h = (0, [])) {s : Nat} (hs : s < h.node.length) : meetL h s s = some (rankOf h s, 0) := near_self (rank_node hc hs).1
end Go.Proofs.Ytepkogijignmlab.Qy
