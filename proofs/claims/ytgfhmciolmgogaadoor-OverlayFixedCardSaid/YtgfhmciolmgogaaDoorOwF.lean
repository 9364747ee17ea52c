/- an overlay as a whole: what its calls answer and leave. -/
import Derived.Test.YtgfhmciolmgogaaDoorOwE
namespace Go.Proofs.YtgfhmciolmgogaaDoor
open Go.RowKit Go.Extern Go.Sort

/-- an overlay, all of it above a base. -/
def IsOv (PX : Nat → Option Obj) (B0 : Nat) (w : World) (pb n : Nat) (bs : List Bool) (R : Bool → Nat → Rw) (nodes arcs : Int) : Prop := ∃ B ab sb, B0 ≤ B ∧ OvMem PX w B pb ab sb n bs R nodes arcs ∧ OvInv n bs R
section
variable {PX : Nat → Option Obj} {w w' : World} {B0 pb n : Nat} {bs : List Bool} {R : Bool → Nat → Rw} {nodes arcs : Int}
theorem IsOv.keep (h : IsOv PX B0 w pb n bs R nodes arcs) (hb : Below w.heap.size w w') : IsOv PX B0 w' pb n bs R nodes arcs := by
  obtain ⟨B, ab, sb, h0, h1, h2⟩ := h
  exact ⟨B, ab, sb, h0, h1.keep hb, h2⟩
theorem IsOv.size (h : IsOv PX B0 w pb n bs R nodes arcs) : B0 ≤ w.heap.size := by
  obtain ⟨B, ab, sb, h0, h1, h2⟩ := h
  exact Nat.le_trans h0 h1.size
theorem IsOv.inv (h : IsOv PX B0 w pb n bs R nodes arcs) : OvInv n bs R := by
  obtain ⟨B, ab, sb, h0, h1, h2⟩ := h
  exact h2
theorem IsOv.bl (h : IsOv PX B0 w pb n bs R nodes arcs) : bs.length = n ∧ n ≤ 65536 := by
  obtain ⟨B, ab, sb, h0, h1, h2⟩ := h
  exact ⟨h1.bl, h1.big⟩
theorem IsOv.rowLen (h : IsOv PX B0 w pb n bs R nodes arcs) (s : Bool) {u : Nat} (hu : u < n) : (R s u).2.1.length ≤ 65536 := by
  obtain ⟨B, ab, sb, h0, h1, h2⟩ := h
  exact h1.len h2.ok s hu
theorem aliveB_iff {x : Int} : aliveB n bs x = true ↔ ∃ u : Nat, x = (u : Int) ∧ u < n ∧ liv bs u = true := by
  unfold aliveB isN liv
  constructor
  · intro h
    simp at h
    exact ⟨x.toNat, by omega, by omega, by simpa using h.2⟩
  · rintro ⟨u, rfl, h1, h2⟩
    simp [h1]
    exact by simpa using h2
theorem ov_new (ao : Option Addr) (k0 cap : Nat) (xs : List (Int × Int × Int)) (w : World) (hl : HasArcs w (.slice ao k0 cap) xs) (hg : graphErr (n : Int) xs = (0, [])) :
    Calls Tryd.prog 5 #[.agg #[.int .i64 n, .slice ao k0 cap]] w fun e w' => ∃ pb R, e = .returned (.tuple #[.pointer (some ⟨pb, 0, none⟩), .nilIface]) ∧ IsOv noP w.heap.size w' pb n (List.replicate n true) R (n : Int) ((normA xs).length : Int) ∧ (∀ s u, u < n → (R s u).2 = (sideL s (normA xs) u, 0)) ∧ Below w.heap.size w w' := by
  obtain ⟨h1, h2⟩ := (good_iff _ _).1 (good_norm hg)
  have hfin : ∀ a ∈ normA xs, (0 ≤ a.1 ∧ a.1 < (n : Int)) ∧ (0 ≤ a.2.1 ∧ a.2.1 < (n : Int)) ∧ 0 ≤ a.2.2 ∧ a.2.2 ≤ 9223372036854775807 := fun a ha => by
    have h3 := h2 a ha
    unfold arcBad at h3
    split at h3
    · cases h3
    · split at h3
      · cases h3
      · refine ⟨⟨?_, ?_⟩, ⟨?_, ?_⟩, ?_, ?_⟩ <;> omega
  refine (onew_good n (by omega) ao k0 cap xs w hl hg hfin (by omega)).mono ?_
  rintro e w' ⟨B, pb, ab, sb, R, rfl, hB, hM, hR, hb⟩
  exact ⟨pb, R, rfl, ⟨B, ab, sb, hB, hM, inv_new (normA_norm xs).rise (fun a ha => (norm_sub ha).2) (fun a ha => ⟨(hfin a ha).1, (hfin a ha).2.1⟩) hR⟩, hR, hb⟩
theorem IsOv.weight (h : IsOv PX B0 w pb n bs R nodes arcs) (x y : Int) : Calls Tryd.prog 14 #[.pointer (some ⟨pb, 0, none⟩), .int .i64 x, .int .i64 y] w fun e w' => e = .returned (.tuple #[.int .u64 ((weightM n bs R x y).getD 0), .bool (weightM n bs R x y).isSome]) ∧ Below w.heap.size w w' := by
  obtain ⟨B, ab, sb, h0, h1, h2⟩ := h
  exact weight_calls h1 h2.ok x y
theorem IsOv.narcs (h : IsOv PX B0 w pb n bs R nodes arcs) : Calls Tryd.prog 9 #[.pointer (some ⟨pb, 0, none⟩)] w fun e w' => e = .returned (.int .i64 arcs) ∧ w' = w := by
  obtain ⟨B, ab, sb, h0, h1, h2⟩ := h
  exact oarcs_calls h1
theorem IsOv.len (h : IsOv PX B0 w pb n bs R nodes arcs) : Calls Tryd.prog 16 #[.pointer (some ⟨pb, 0, none⟩)] w fun e w' => e = .returned (.int .i64 nodes) ∧ w' = w := by
  obtain ⟨B, ab, sb, h0, h1, h2⟩ := h
  exact olen_calls h1
theorem IsOv.alive (h : IsOv PX B0 w pb n bs R nodes arcs) (x : Int) : Calls Tryd.prog 15 #[.pointer (some ⟨pb, 0, none⟩), .int .i64 x] w fun e w' => e = .returned (.bool (aliveB n bs x)) ∧ w' = w := by
  obtain ⟨B, ab, sb, h0, h1, h2⟩ := h
  exact alive_calls h1 x
theorem IsOv.out (h : IsOv PX B0 w pb n bs R nodes arcs) (x : Int) : Calls Tryd.prog 7 #[.pointer (some ⟨pb, 0, none⟩), .int .i64 x] w fun e w' => ∃ v' : Value, e = .returned v' ∧ (aliveB n bs x = false → v' = .slice none 0 0) ∧ (aliveB n bs x = true → w'.ownsRow w.heap.size 64 3 v' (livH bs (R false x.toNat).2.1).length (flatH (livH bs (R false x.toNat).2.1))) ∧ Below w.heap.size w w' := by
  obtain ⟨B, ab, sb, h0, h1, h2⟩ := h
  exact out_calls h1 h2.ok x
theorem IsOv.inn (h : IsOv PX B0 w pb n bs R nodes arcs) (x : Int) : Calls Tryd.prog 8 #[.pointer (some ⟨pb, 0, none⟩), .int .i64 x] w fun e w' => ∃ v' : Value, e = .returned v' ∧ (aliveB n bs x = false → v' = .slice none 0 0) ∧ (aliveB n bs x = true → w'.ownsRow w.heap.size 64 3 v' (livH bs (R true x.toNat).2.1).length (flatH (livH bs (R true x.toNat).2.1))) ∧ Below w.heap.size w w' := by
  obtain ⟨B, ab, sb, h0, h1, h2⟩ := h
  exact in_calls h1 h2.ok x
/-- what a Put leaves, where it puts something. -/
def putRows (R : Bool → Nat → Rw) (x y : Nat) (wt via : Int) (v1 v2 : Value) : Bool → Nat → Rw := updS (updS R false x (v1, setH (R false x).2.1 ((y : Int), wt, via), (R false x).2.2)) true y (v2, setH (R true y).2.1 ((x : Int), wt, via), (R true y).2.2)
theorem IsOv.put (h : IsOv PX B0 w pb n bs R nodes arcs) (x y wt via : Int) (ha : -4611686018427387904 ≤ arcs ∧ arcs ≤ 4611686018427387904) : Calls Tryd.prog 11 #[.pointer (some ⟨pb, 0, none⟩), .int .i64 x, .int .i64 y, .int .u64 wt, .int .i64 via] w fun e w' =>
    (∃ c, c ≠ 0 ∧ putErr n bs x y wt via = c ∧ e = .returned (.tuple #[.bool false, .iface 49 (.int .i64 c)]) ∧ Below w.heap.size w w') ∨
    (∃ k, weightM n bs R x y = some k ∧ k ≤ wt ∧ e = .returned (.tuple #[.bool false, .nilIface]) ∧ Below w.heap.size w w') ∨
    (∃ (a b : Nat) (v1 v2 : Value), x = (a : Int) ∧ y = (b : Int) ∧ (∀ k, weightM n bs R x y = some k → wt < k) ∧ (a < n ∧ b < n ∧ liv bs a = true ∧ liv bs b = true) ∧ e = .returned (.tuple #[.bool true, .nilIface]) ∧ IsOv PX B0 w' pb n bs (putRows R a b wt via v1 v2) nodes (arcs + (if (weightM n bs R x y).isNone then 1 else 0)) ∧ Below B0 w w') := by
  obtain ⟨B, ab, sb, h0, h1, h2⟩ := h
  by_cases hp : putErr n bs x y wt via = 0
  · obtain ⟨a, b, rfl, rfl, han, hbn, hab, lx, ly⟩ := putErr_zero hp
    have la : liv bs a = true := by obtain ⟨u, e, _, h⟩ := aliveB_iff.1 lx; have : a = u := by omega
                                    subst this; exact h
    have lb : liv bs b = true := by obtain ⟨u, e, _, h⟩ := aliveB_iff.1 ly; have : b = u := by omega
                                    subst this; exact h
    have hne : a ≠ b := fun e => hab (by rw [e])
    cases hw : weightM n bs R (a : Int) (b : Int) with
    | none =>
      refine (oPutNew h1 h2.ok _ _ wt via hp hw ha).mono ?_
      rintro e w' ⟨rfl, v1, v2, hm, hb⟩
      simp only [Int.toNat_natCast] at hm
      exact Or.inr (Or.inr ⟨a, b, v1, v2, rfl, rfl, (fun k hk => by cases hk), ⟨han, hbn, la, lb⟩, rfl, ⟨B, ab, sb, h0, hm, h2.put han hbn hne la lb wt via v1 v2⟩, hb.mono h0⟩)
    | some k =>
      by_cases hk : k ≤ wt
      · refine (oPutKeep h1 h2.ok _ _ wt via hp k hw hk).mono ?_
        rintro e w' ⟨rfl, hb⟩
        exact Or.inr (Or.inl ⟨k, rfl, hk, rfl, hb⟩)
      · refine (oPutLess h1 h2.ok _ _ wt via hp k hw (by omega) ha).mono ?_
        rintro e w' ⟨rfl, v1, v2, hm, hb⟩
        simp only [Int.toNat_natCast] at hm
        refine Or.inr (Or.inr ⟨a, b, v1, v2, rfl, rfl, (fun k' hk' => by cases hk'; omega), ⟨han, hbn, la, lb⟩, rfl, ⟨B, ab, sb, h0, ?_, h2.put han hbn hne la lb wt via v1 v2⟩, hb.mono h0⟩)
        simpa [putRows] using hm
  · refine (oPutErr h1 x y wt via hp).mono ?_
    rintro e w' ⟨rfl, rfl⟩
    exact Or.inl ⟨_, hp, rfl, rfl, Below.refl _ _⟩
theorem IsOv.remove (h : IsOv PX B0 w pb n bs R nodes arcs) (x : Int) (ha : -4611686018427000000 ≤ arcs ∧ arcs ≤ 4611686018427000000) (hnd : -4611686018427387904 ≤ nodes ∧ nodes ≤ 4611686018427387904) : Calls Tryd.prog 10 #[.pointer (some ⟨pb, 0, none⟩), .int .i64 x] w fun e w' =>
    (aliveB n bs x = false ∧ e = .returned (.iface 49 (.int .i64 7)) ∧ w' = w) ∨
    (aliveB n bs x = true ∧ ∃ (u : Nat) (R' : Bool → Nat → Rw), x = (u : Int) ∧ u < n ∧ liv bs u = true ∧ e = .returned .nilIface ∧ IsOv PX B0 w' pb n (bs.set u false) R' (nodes - 1) (arcs - ((livH bs (R false u).2.1).length : Int) - ((livH bs (R true u).2.1).length : Int)) ∧ (∀ s v, v < n → (R' s v).2 = if v = u then ([], 0) else if hasH (livH (bs.set u false) (R (!s) u).2.1) (v : Int) then loseH (bs.set u false) (R s v).2.1 (R s v).2.2 else (R s v).2) ∧ Below B0 w w') := by
  obtain ⟨B, ab, sb, h0, h1, h2⟩ := h
  cases hx : aliveB n bs x with
  | false =>
    refine (remove_err h1 x hx).mono ?_
    rintro e w' ⟨rfl, rfl⟩
    exact Or.inl ⟨rfl, rfl, rfl⟩
  | true =>
    obtain ⟨u, rfl, hu, lu⟩ := aliveB_iff.1 hx
    refine (remove_calls h1 h2.ok u hu hx (fun s => h2.self s u hu) (h2.pre hu lu) ha hnd).mono ?_
    rintro e w' ⟨rfl, R1, R2, L1, L2, K2, hm, hb⟩
    have hq : ∀ s, (livH (bs.set u false) (R s u).2.1).length = (livH bs (R s u).2.1).length := fun s => by
      have h3 := livH_drop1 (bs := bs) lu (h2.ok.rise s u hu) (fun a ha => (h2.ok.node s u hu a ha).1)
      have h4 : hasH (R s u).2.1 (u : Int) = false := by
        cases h5 : hasH (R s u).2.1 (u : Int) with
        | false => rfl
        | true =>
          obtain ⟨a, h6, h7⟩ := hasH_mem.1 h5
          exact absurd h7 (h2.self s u hu a h6)
      rw [h4] at h3
      simpa using h3.symm
    rw [hq, hq] at hm
    exact Or.inr ⟨rfl, u, _, rfl, hu, lu, rfl, ⟨B, ab, sb, h0, hm, h2.remove hu lu K2 L1 L2⟩, lost_rows L1 L2, hb.mono h0⟩
end
end Go.Proofs.YtgfhmciolmgogaaDoor
