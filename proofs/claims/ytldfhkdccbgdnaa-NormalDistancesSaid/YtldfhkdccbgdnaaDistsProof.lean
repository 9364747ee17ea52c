/- NormalDistances holds: for every two graphs the law answers true and its arguments read as they did. No condition beside the row's own. -/
import Derived.Test.YtldfhkdccbgdnaaOpen
import Derived.Test.YtldfhkdccbgdnaaDistsW
import Derived.Test.YtldfhkdccbgdnaaDistsB
namespace Go.Proofs.Ytldfhkdccbgdnaa
open Go.ChangeShapes Go.WideShapes Go.ChangeAt Go.RowKit Go.Deep

set_option maxRecDepth 100000 in
theorem graph_open0 {H : Type} {enc : TypeId × Value → H} {W : World} {base : Nat} {v : Value} {d : DataW H} {p : List MemPlace} (hv : Value.okWide Try.prog W .any base 24 v) (h : DataW.Trod enc Try.prog W 0 (fun _ => true) true 24 v d p) :
    ∃ (N : Int) (ao : Option Addr) (cap : Nat) (xs : List (Int × Int × Int)), v = .agg #[.int .i64 N, .slice ao xs.length cap] ∧ HasArcs W (.slice ao xs.length cap) xs ∧ xs.length ≤ maxLen ∧ (ao = none → cap = 0) := by
  obtain ⟨cs, rfl, hsz⟩ := okWide_struct Try.underlying24 hv
  rw [Try.cells24] at hsz
  obtain ⟨g0, g1, rfl⟩ : ∃ g0 g1, cs = #[g0, g1] := by
    obtain ⟨l⟩ := cs
    match l, hsz with
    | [g0, g1], _ => exact ⟨g0, g1, rfl⟩
  obtain ⟨fuel, hf⟩ := h
  have hf' : DataW.trod enc Try.prog W 0 (fun _ => true) true fuel 24 [g0, g1] = some (d, p) := hf
  obtain ⟨y0, y1, m, _, _, t0, t1⟩ := trod_struct2 Try.underlying24 hf'
  rw [Try.cells3] at t0
  rw [Try.cells22] at t1
  obtain ⟨N, e0, _, _⟩ := DataW.trod_int Try.underlying3 t0
  simp at e0 t1
  subst e0
  rcases open_slice Try.underlying22 t1 with ⟨hcs, _⟩ | ⟨a, len', cap', m, n, D, Pl, hcs, _, hl, hm, hmm, _, hx⟩
  · have e : g1 = .slice none 0 0 := by simpa using hcs
    subst e
    exact ⟨N, none, 0, [], rfl, ⟨none, 0, rfl, fun j q hj => by simp at hj⟩, Nat.zero_le _, fun _ => rfl⟩
  · have e : g1 = .slice (some a) len' cap' := by simpa using hcs
    subst e
    simp at hmm
    subst hmm
    have hq : ∀ i, i < len' → ∃ q : Int × Int × Int, W.cell? (a.add (i * 3)) = some (.int .i64 q.1) ∧ W.cell? ((a.add (i * 3)).add 1) = some (.int .i64 q.2.1) ∧ W.cell? ((a.add (i * 3)).add 2) = some (.int .i64 q.2.2) := fun i hi => by
      obtain ⟨cs', h1, h2⟩ := hx i (by omega)
      rw [Try.cells39] at h1
      obtain ⟨_, hlen, hcell⟩ := World.cells?_some h1
      obtain ⟨c0, c1, c2, rfl⟩ : ∃ c0 c1 c2, cs' = [c0, c1, c2] := by
        match cs', hlen with
        | [c0, c1, c2], _ => exact ⟨c0, c1, c2, rfl⟩
      obtain ⟨y0, y1, y2, m, _, _, t0, t1, t2⟩ := trod_struct3 Try.underlying39 h2
      rw [Try.cells3] at t0 t1 t2
      obtain ⟨x0, e0, _, _⟩ := DataW.trod_int Try.underlying3 t0
      obtain ⟨x1, e1, _, _⟩ := DataW.trod_int Try.underlying3 t1
      obtain ⟨x2, e2, _, _⟩ := DataW.trod_int Try.underlying3 t2
      simp at e0 e1 e2
      subst e0 e1 e2
      have g0 := hcell 0 (by omega)
      have g1 := hcell 1 (by omega)
      have g2 := hcell 2 (by omega)
      exact ⟨(x0, x1, x2), by simpa [Addr.add] using g0, by simpa using g1, by simpa using g2⟩
    obtain ⟨q, hq'⟩ := choose_lt hq
    have hlen : ((List.range len').map q).length = len' := by rw [List.length_map, List.length_range]
    refine ⟨N, some a, m, (List.range len').map q, by rw [hlen], ⟨some a, m, rfl, fun j r hj => ?_⟩, by rw [hlen]; omega, fun e => by cases e⟩
    have hj' : j < len' := by
      have := (List.getElem?_eq_some_iff.1 hj).1
      rw [hlen] at this
      exact this
    have er : r = q j := by
      rw [List.getElem?_map, List.getElem?_range hj'] at hj
      exact (Option.some.inj hj).symm
    subst er
    obtain ⟨h0, h1, h2⟩ := hq' j hj'
    obtain ⟨b, off, spot⟩ := a
    have hspot : spot = none := by
      have h00 := (hq' 0 (by omega)).1
      simpa [Addr.add] using World.cell?_spot h00
    subst hspot
    have e1 : (Addr.mk b off none).add (j * 3) = ⟨b, off + j * 3, none⟩ := add_plain _ _ _
    rw [e1] at h0 h1 h2
    have e2 : (Addr.mk b (off + j * 3) none).add 1 = ⟨b, off + j * 3 + 1, none⟩ := add_plain _ _ _
    have e3 : (Addr.mk b (off + j * 3) none).add 2 = ⟨b, off + j * 3 + 2, none⟩ := add_plain _ _ _
    rw [e2] at h1
    rw [e3] at h2
    have hlt : b < W.heap.size := by
      rcases Nat.lt_or_ge b W.heap.size with h | h
      · exact h
      · simp [World.cell?, Array.getElem?_eq_none h] at h0
    exact ⟨b, off, rfl, hlt, h0, h1, h2⟩

theorem good_nodes {N : Int} {xs : List (Int × Int × Int)} (h : graphErr N xs = (0, [])) : 0 ≤ N := by
  by_cases hN : 0 ≤ N
  · exact hN
  · unfold graphErr at h
    rw [if_pos (Or.inl (by omega))] at h
    exact absurd (congrArg Prod.fst h) (by decide)
theorem dists_calls (N M : Int) (ao bo : Option Addr) (ca cb : Nat) (xs ys : List (Int × Int × Int)) (w : World) (hx : HasArcs w (.slice ao xs.length ca) xs) (hy : HasArcs w (.slice bo ys.length cb) ys) (hmx : xs.length ≤ maxLen) (hmy : ys.length ≤ maxLen) (hxn : ao = none → ca = 0) (hyn : bo = none → cb = 0) : Calls Try.prog 3 #[.agg #[.int .i64 N, .slice ao xs.length ca], .agg #[.int .i64 M, .slice bo ys.length cb]] w fun e w' => e = .returned (.bool true) ∧ Below w.heap.size w w' := by
  by_cases hf : isFew N xs = true ∧ isFew M ys = true
  · obtain ⟨h1, h2⟩ := hf
    obtain ⟨a1, a2, a3⟩ := of_decide_eq_true h1
    obtain ⟨b1, b2, b3⟩ := of_decide_eq_true h2
    obtain ⟨n, rfl⟩ := Int.eq_ofNat_of_zero_le (good_nodes a1)
    obtain ⟨m, rfl⟩ := Int.eq_ofNat_of_zero_le (good_nodes b1)
    exact dists_good n m (by omega) (by omega) ao bo _ ca _ cb xs ys w hx hy hxn hyn a1 b1 a3 b3
  · exact dists_bad N M ao bo _ ca _ cb xs ys w hx hy hmx hmy hf

set_option maxRecDepth 100000 in
theorem dists_lifted (os : Os) (started : os.Started) (H : Type) (enc : TypeId × Value → H) :
    ReturnsInHanded {} Try.checked os 3 .any (Rows.normalDistancesSpec.pre6 enc Try.prog Try.f3 Rows.normalDistancesRow.domain false) (Rows.normalDistancesSpec.post enc Try.prog Try.f3 false true false false) := by
  refine returnsInHanded_of_change (C := Try.checked) Try.own started (by kernel_rfl) Try.func3
    (ChangeSpec.witness6 (enc := enc) (C := Try.checked) false ⟨#[], #[.agg #[.int .i64 0, .slice none 0 0], .agg #[.int .i64 0, .slice none 0 0]], []⟩ 8 (by kernel_rfl) (by kernel_rfl) (by kernel_rfl) (by kernel_rfl)) ?_
  intro W base args ds gs before hval0 hW _ _
  have hval : ∀ (j : Nat) t v, Try.f3.params[j]? = some t → args[j]? = some v → Value.okWide Try.prog W .any base t v := hval0
  have hW' := hW
  obtain ⟨p, q, hA0, hV, rfl, hfz, hnd⟩ := hW
  have hA : DataW.TrodAll enc Try.prog W 0 (fun _ => true) true Try.f3.params.toList args.toList ds p := hA0
  rw [Try.params3] at hA hval
  obtain ⟨v0, v1, d0, d1, p0, p1, rfl, rfl, rfl, h0, h1⟩ := trodAll_two hA
  obtain ⟨rfl, rfl⟩ := trodVars_none hV
  obtain ⟨N, ao, ac, xs, rfl, hxs, hmx, hnx⟩ := graph_open0 (hval 0 24 v0 rfl rfl) h0
  obtain ⟨M, bo, bc, ys, rfl, hys, hmy, hny⟩ := graph_open0 (hval 1 24 v1 rfl rfl) h1
  refine (dists_calls N M ao bo ac bc xs ys W hxs hys hmx hmy hnx hny).mono fun e W' ⟨he, hw⟩ => ?_
  subst he
  exact ⟨_, rfl, post_of_law hW' rfl (by kernel_rfl) rfl (by rw [Try.params3]; intro t ht; simp at ht; subst ht; exact ⟨by kernel_rfl, of_decide_eq_true (by kernel_rfl)⟩) hw⟩

theorem dists_holds : Rows.NormalDistancesSaid :=
  OpenClaim.holds_of_wide 3 Try.f3 rfl rfl rfl rfl rfl rfl rfl ⟨rfl, rfl, rfl, rfl, rfl⟩ rfl rfl rfl rfl rfl (by kernel_rfl) Try.func3 (by kernel_rfl)
    (of_decide_eq_true (by kernel_rfl)) (by unfold Func.isWrapper; rw [if_neg (of_decide_eq_false (by kernel_rfl))]; exact ⟨rfl, rfl⟩)
    (fun os started H enc _ => dists_lifted os started H enc)
#print axioms dists_holds
end Go.Proofs.Ytldfhkdccbgdnaa
