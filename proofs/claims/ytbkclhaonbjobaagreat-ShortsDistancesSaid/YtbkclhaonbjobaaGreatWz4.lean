/- What is seen without a node, beside the distances in the overlay without it. -/
import Derived.Test.YtbkclhaonbjobaaGreatDtW
import Derived.Test.YtbkclhaonbjobaaGreatQpX
namespace Go.Proofs.YtbkclhaonbjobaaGreat.Wt
open Go Go.RowKit Go.Extern

section
variable {n : Nat} {bs : List Bool} {R : Bool → Nat → Rw} {zs : List A4} {skip : Int}
theorem row_arc (h : Tied n bs R zs) (hi : OvInv n bs R) {v : Nat} {c : Int × Int × Int} : c ∈ rowW n bs R v ↔ ((v : Int), c.1, c.2.1, c.2.2) ∈ zs := by
  rw [← outM_row, ← h.outM hi]
  exact (sortA_mem _).trans sideA_mem_false
/-- the arcs of the rows without a node are the overlay's that don't lead to it. -/
theorem rows_arc (h : Tied n bs R zs) (hi : OvInv n bs R) {a b r : Int} : (a, b, r) ∈ rowsZ (rowW n bs R) skip n ↔ (a, b, r) ∈ zs.map Dt.as3 ∧ b ≠ skip := by
  constructor
  · intro hm
    obtain ⟨v, hv, h1⟩ := rowsZ_mem hm
    obtain ⟨e1, c, hc, e2, e3, e4⟩ := rowZ_mem h1
    simp only at e1 e2 e3
    have h2 := (row_arc h hi).1 hc
    refine ⟨List.mem_map.2 ⟨_, h2, ?_⟩, by rw [e2]; exact e4⟩
    unfold Dt.as3
    simp only
    rw [e1, e2, e3]
  · rintro ⟨hm, hb⟩
    obtain ⟨⟨z0, z1, z2, z3⟩, hz, e⟩ := List.mem_map.1 hm
    unfold Dt.as3 at e
    simp only [Prod.mk.injEq] at e
    obtain ⟨rfl, rfl, rfl⟩ := e
    obtain ⟨u, v, e1, e2, hu, _, _, _, _⟩ := h.ends _ hz
    simp only at e1 e2
    subst e1
    have hr : (z1, z2, z3) ∈ rowW n bs R u := (row_arc h hi).2 hz
    refine rowsZ_in (v := u) ?_ hu
    unfold rowZ
    exact List.mem_map.2 ⟨(z1, z2, z3), List.mem_filter.2 ⟨hr, by simpa using hb⟩, rfl⟩
/-- the overlay without a node. -/
def zsX (n : Nat) (bs : List Bool) (zs : List A4) (skip : Int) : List A4 := if aliveB n bs skip then remZ zs skip else zs
def bsX (n : Nat) (bs : List Bool) (skip : Int) : List Bool := if aliveB n bs skip then bs.set skip.toNat false else bs
theorem zsX_mem (h : Tied n bs R zs) {x : A4} : x ∈ zsX n bs zs skip ↔ x ∈ zs ∧ x.1 ≠ skip ∧ x.2.1 ≠ skip := by
  unfold zsX
  split
  · exact remZ_mem
  · rename_i hd
    refine ⟨fun hx => ?_, fun hx => hx.1⟩
    obtain ⟨u, v, e1, e2, hu, hv, lu, lv, _⟩ := h.ends x hx
    refine ⟨hx, fun e => hd ?_, fun e => hd ?_⟩
    · exact aliveB_iff.2 ⟨u, by omega, hu, lu⟩
    · exact aliveB_iff.2 ⟨v, by omega, hv, lv⟩
theorem bsX_liv {v : Nat} (hl : liv bs v = true) (hne : (v : Int) ≠ skip) : liv (bsX n bs skip) v = true := by
  unfold bsX
  split
  · rename_i ha
    obtain ⟨s, e, _, _⟩ := aliveB_iff.1 ha
    rw [liv_set, if_neg (by omega)]
    exact hl
  · exact hl
theorem fineX (h : Tied n bs R zs) (hb : ZB zs) : Dt.Fine (liv (bsX n bs skip)) ((zsX n bs zs skip).map Dt.as3) := fun a ha => by
  obtain ⟨z, hz, rfl⟩ := List.mem_map.1 ha
  obtain ⟨h1, h2, h3⟩ := (zsX_mem h).1 hz
  obtain ⟨u, v, e1, e2, hu, hv, lu, lv, _⟩ := h.ends z h1
  have hw := hb z h1
  unfold Dt.as3
  simp only
  refine ⟨by omega, by omega, hw.1, hw.2, ?_, ?_⟩
  · rw [e1, Int.toNat_natCast]
    exact bsX_liv lu (by omega)
  · rw [e2, Int.toNat_natCast]
    exact bsX_liv lv (by omega)
theorem endsX (h : Tied n bs R zs) : ∀ a ∈ (zsX n bs zs skip).map Dt.as3, a.1 < (n : Int) ∧ a.2.1 < (n : Int) := fun a ha => by
  obtain ⟨z, hz, rfl⟩ := List.mem_map.1 ha
  obtain ⟨u, v, e1, e2, hu, hv, _⟩ := h.ends z ((zsX_mem h).1 hz).1
  unfold Dt.as3
  simp only
  omega
theorem arcX (h : Tied n bs R zs) {a b r : Int} : (a, b, r) ∈ (zsX n bs zs skip).map Dt.as3 ↔ (a, b, r) ∈ zs.map Dt.as3 ∧ a ≠ skip ∧ b ≠ skip := by
  constructor
  · intro hm
    obtain ⟨z, hz, e⟩ := List.mem_map.1 hm
    obtain ⟨h1, h2, h3⟩ := (zsX_mem h).1 hz
    have e0 := e
    unfold Dt.as3 at e0
    simp only [Prod.mk.injEq] at e0
    exact ⟨List.mem_map.2 ⟨z, h1, e⟩, by rw [← e0.1]; exact h2, by rw [← e0.2.1]; exact h3⟩
  · rintro ⟨hm, h2, h3⟩
    obtain ⟨z, hz, e⟩ := List.mem_map.1 hm
    have e0 := e
    unfold Dt.as3 at e0
    simp only [Prod.mk.injEq] at e0
    exact List.mem_map.2 ⟨z, (zsX_mem h).2 ⟨hz, by rw [e0.1]; exact h2, by rw [e0.2.1]; exact h3⟩, e⟩
/-- a walk that doesn't go by the node is a walk in the overlay without it. -/
theorem reachX (h : Tied n bs R zs) (hi : OvInv n bs R) {u : Int} (hu : u ≠ skip) : ∀ (m : Nat) (v d : Int), ReachN (rowsZ (rowW n bs R) skip n) u m v d → v ≠ skip ∧ ReachN ((zsX n bs zs skip).map Dt.as3) u m v d
  | 0, v, d, ⟨h1, h2⟩ => ⟨by rw [h1]; exact hu, h1, h2⟩
  | m + 1, v, d, ⟨x, e, r, h1, h2, h3⟩ => by
    obtain ⟨g1, g2⟩ := reachX h hi hu m x e h1
    obtain ⟨g3, g4⟩ := (rows_arc h hi).1 h2
    exact ⟨g4, x, e, r, g2, (arcX h).2 ⟨g3, g1, g4⟩, h3⟩
theorem reachY (h : Tied n bs R zs) (hi : OvInv n bs R) {u : Int} : ∀ (m : Nat) (v d : Int), ReachN ((zsX n bs zs skip).map Dt.as3) u m v d → ReachN (rowsZ (rowW n bs R) skip n) u m v d
  | 0, _, _, h1 => h1
  | m + 1, v, d, ⟨x, e, r, h1, h2, h3⟩ => by
    obtain ⟨g3, _, g4⟩ := (arcX h).1 h2
    exact ⟨x, e, r, reachY h hi m x e h1, (rows_arc h hi).2 ⟨g3, g4⟩, h3⟩
/-- what is seen is never nearer; without bounds it is the distance. -/
theorem seen_true (h : Tied n bs R zs) (hi : OvInv n bs R) (hb : ZB zs) (hn : n ≤ 12) {u : Nat} (hu : u < n) (hl : liv bs u = true) (hus : (u : Int) ≠ skip) {v : Nat} (hv : v < n) (hops se mo : Int) :
    Dt.dist n (liv (bsX n bs skip)) ((zsX n bs zs skip).map Dt.as3) u v ≤ goalF n (rowsZ (rowW n bs R) skip n) u hops se mo (v : Int) ∧ goalF n (rowsZ (rowW n bs R) skip n) u hops se mo (v : Int) ≤ 18446744073709551615 ∧
      ((n : Int) < hops → (n : Int) < se → 9223372036854775808 ≤ mo → goalF n (rowsZ (rowW n bs R) skip n) u hops se mo (v : Int) = Dt.dist n (liv (bsX n bs skip)) ((zsX n bs zs skip).map Dt.as3) u v) := by
  have hz := rowsZ_fine (skip := skip) (rowsW_tied h hi hb) (show n ≤ 512 by omega)
  have hd := dist_is (fineX h hb) (endsX (skip := skip) h) hn (j := v) hu (bsX_liv (n := n) hl hus)
  have hrx : ∀ e, Reach (rowsZ (rowW n bs R) skip n) (u : Int) (v : Int) e → Reach ((zsX n bs zs skip).map Dt.as3) (u : Int) (v : Int) e := fun e ⟨m, hm⟩ => ⟨m, (reachX h hi hus m _ _ hm).2⟩
  have hry : ∀ e, Reach ((zsX n bs zs skip).map Dt.as3) (u : Int) (v : Int) e → Reach (rowsZ (rowW n bs R) skip n) (u : Int) (v : Int) e := fun e ⟨m, hm⟩ => ⟨m, reachY h hi m _ _ hm⟩
  obtain ⟨t, h1, h2⟩ := runW_end hz hu hops se mo
  have hI := steps_inv (hb := hops) hz (start_inv hu _ rfl rfl) t _ h1
  have ht := steps_le hz (start_inv hu _ rfl rfl) h1
  generalize Dt.dist n (liv (bsX n bs skip)) ((zsX n bs zs skip).map Dt.as3) u v = D at *
  have hgf : goalF n (rowsZ (rowW n bs R) skip n) u hops se mo (v : Int) = farOr (runW n (rowsZ (rowW n bs R) skip n) u hops se mo).vs[v]? := by
    unfold goalF
    rw [Int.toNat_natCast]
  rw [hgf]
  clear hgf h1
  generalize runW n (rowsZ (rowW n bs R) skip n) u hops se mo = S at *
  have hlab : ∀ d, S.vs[v]? = some (some d) → D ≤ d ∧ d ≤ 9223372036854775808 := fun d hdd => by
    obtain ⟨a1, a2, a3, a4, a5⟩ := hI.lab v d hdd
    have h9 : S.hs v ≤ 12 := by omega
    rcases hd with ⟨_, hno⟩ | ⟨_, _, _, hle⟩
    · exact absurd (hrx d a5) (hno d)
    · exact ⟨hle d (hrx d a5), by omega⟩
  have hDf : D ≤ 18446744073709551615 := by rcases hd with ⟨e, _⟩ | ⟨_, e, _, _⟩ <;> omega
  obtain ⟨o, ho⟩ : ∃ o, S.vs[v]? = some o := ⟨S.vs[v]'(by rw [hI.lv]; exact hv), List.getElem?_eq_getElem _⟩
  refine ⟨?_, ?_, fun k1 k2 k3 => ?_⟩
  · rw [ho]
    cases o with
    | none => exact hDf
    | some d => exact (hlab d ho).1
  · rw [ho]
    cases o with
    | none => exact Int.le_refl _
    | some d =>
      have := (hlab d ho).2
      show d ≤ _
      omega
  · have hno : ∀ d : Nat, d < n → S.f (d : Int) = none := by
      rcases h2 with ⟨g1, _⟩ | ⟨g1, _⟩ | ⟨x, k, g1, g2, _⟩
      · omega
      · exact g1
      · have g3 := hI.opn x k g1.1 g1.2.1
        obtain ⟨a1, a2, a3, a4, a5⟩ := hI.lab x k g3
        have h9 : S.hs x ≤ 12 := by omega
        omega
    have hD := hI.dist hz ht k1 hno
    obtain ⟨x, e1, e2⟩ := hD.2 v hv
    rw [List.getElem?_map, List.getElem?_range hv] at e1
    have e3 : farOr S.vs[v]? = x := Option.some.inj e1
    rw [e3]
    rcases e2 with ⟨_, _, r1, r2⟩ | ⟨e4, r1⟩ <;> rcases hd with ⟨e5, q1⟩ | ⟨_, _, q1, q2⟩
    · exact absurd (hrx _ r1) (q1 _)
    · have := r2 D (hry _ q1)
      have := q2 x (hrx _ r1)
      omega
    · omega
    · exact absurd (hry _ q1) (r1 _)
end
end Go.Proofs.YtbkclhaonbjobaaGreat.Wt
