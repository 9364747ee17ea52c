/- viaductref04.SameMatrix at two matrices of the same distances; the reference's own matrix is one. -/
import Derived.Test.YtefcmpdnlbpjpaaScM
import Derived.Test.YtefcmpdnlbpjpaaSqS
import Derived.Test.YtefcmpdnlbpjpaaDsW
import Derived.Test.YtefcmpdnlbpjpaaWwM
import Derived.Deep.RegionHeld3
namespace Go.Proofs.Ytefcmpdnlbpjpaa
open Go.RowKit Go.Extern

attribute [local go_sem] Oper.semAt_some

def HasRows (w : World) (lo : Option Addr) (vs : List Value) : Prop := ∀ (i : Nat) (v : Value), vs[i]? = some v → ∃ b, lo = some ⟨b, 0, none⟩ ∧ (∃ cur, w.heap[b]? = some (.cells cur 44)) ∧ w.cell? ⟨b, i, none⟩ = some v
theorem HasRows.keep {w w' : World} {lo : Option Addr} {vs : List Value} (h : HasRows w lo vs) (hb : Below w.heap.size w w') : HasRows w' lo vs := fun i v hv => by
  obtain ⟨b, e, ⟨cur, hc⟩, c⟩ := h i v hv
  exact ⟨b, e, ⟨cur, (hb.block _ (lt_of_get hc)).trans hc⟩, (hb.cell (p := ⟨b, i, none⟩) (lt_of_get hc)).trans c⟩
theorem rows_of_at {w : World} {rb : Nat} {vs : List Value} (h : RowsAt w rb vs) : HasRows w (some ⟨rb, 0, none⟩) vs := fun _ _ hj => ⟨rb, rfl, ⟨_, h⟩, (h.at hj).1⟩
/-- the reference's matrix, as rows of distances. -/
theorem mat_of {B n db : Nat} {w : World} {rs : Nat → Nat} {xs : List (Int × Int × Int)} (hg : graphErr (n : Int) xs = (0, [])) (hn : n ≤ 12) (h : Ds.MatP B w db n n rs (Ds.dist n xs)) (hex : ∀ i : Nat, i < n → ∃ D, IsDist n (normA xs) i D) : ∃ us : List Value, us.length = n ∧ HasRows w (some ⟨db, 0, none⟩) us ∧ Mat w n (normA xs) us := by
  refine ⟨Ds.rowV n (Ds.rowS n n rs), by unfold Ds.rowV; simp, fun i v hv => ⟨db, rfl, ⟨_, h.top⟩, ?_⟩, fun i v hv => ?_⟩
  · have hl : i < n := by
      have := (List.getElem?_eq_some_iff.1 hv).1
      unfold Ds.rowV at this
      simpa using this
    rw [Ds.rowV_get n _ hl] at hv
    cases hv
    have := (h.at hl (Nat.le_refl _)).1
    unfold Ds.rowS
    rw [if_pos hl]
    exact this
  · have hl : i < n := by
      have := (List.getElem?_eq_some_iff.1 hv).1
      unfold Ds.rowV at this
      simpa using this
    rw [Ds.rowV_get n _ hl] at hv
    cases hv
    obtain ⟨D, hD⟩ := hex i hl
    refine ⟨rs i, D, by unfold Ds.rowS; rw [if_pos hl], hD, ?_⟩
    have hr := h.row i hl
    unfold U64s
    rw [hr]
    congr 2
    unfold Ds.rowV
    apply congrArg List.toArray
    apply List.ext_getElem?
    intro j
    rw [List.getElem?_map]
    rcases Nat.lt_or_ge j n with hj | hj
    · rw [List.getElem?_map, List.getElem?_range hj, dist_is (fine_norm hg) hn hl hj hD, ← Ds.dist_norm (Ds.fine_good hg)]
      rfl
    · rw [List.getElem?_eq_none (by simp; omega), List.getElem?_eq_none (by rw [List.length_map, hD.1]; omega)]
      rfl

set_option maxRecDepth 100000 in
set_option maxHeartbeats 4000000 in
theorem sameMatrix_yes (ao bo : Option Addr) (ac bc n : Nat) (zs : List (Int × Int × Int)) (vs us : List Value) (w : World) (hv : vs.length = n) (hu : us.length = n) (ha : HasRows w ao vs) (hb : HasRows w bo us) (ma : Mat w n zs vs) (mb : Mat w n zs us) (hn : n ≤ 65536) :
    Calls Try.prog 8 #[.slice ao n ac, .slice bo n bc] w fun e w' => e = .returned (.bool true) ∧ Below w.heap.size w w' := by
  have HA : Hid (HasRows w ao vs ∧ HasRows w bo us ∧ Mat w n zs vs ∧ Mat w n zs us) := ⟨ha, hb, ma, mb⟩
  have HL : Hid (vs.length = n ∧ us.length = n) := ⟨hv, hu⟩
  clear ha hb ma mb hv hu
  go_enter Try.func8, Try.ntmps8
  go_wp2_with fail
  go_loopw [13] (fun iv wr => ∃ k : Nat, k ≤ n ∧ iv = .int .i64 k ∧ Below w.heap.size w wr) (fun iv _ => n - (intOf iv).toNat)
  case atStart => exact ⟨0, Nat.zero_le _, rfl, Below.refl _ _⟩
  case round =>
    obtain ⟨k, hk, rfl, hbw⟩ := hrel
    have HBW : Hid (Below w.heap.size w wr) := hbw
    clear hbw
    by_cases hlt : k < n
    · obtain ⟨v, hv⟩ : ∃ v, vs[k]? = some v := ⟨vs[k]'(by rw [HL.out.1]; exact hlt), List.getElem?_eq_getElem _⟩
      obtain ⟨u, hu⟩ : ∃ u, us[k]? = some u := ⟨us[k]'(by rw [HL.out.2]; exact hlt), List.getElem?_eq_getElem _⟩
      obtain ⟨b1, e1, ⟨_, l1'⟩, q1⟩ := (HA.out.1.keep HBW.out) k v hv
      obtain ⟨b2, e2, ⟨_, l2'⟩, q2⟩ := (HA.out.2.1.keep HBW.out) k u hu
      obtain ⟨d1, D, rfl, h1, u1⟩ := HA.out.2.2.1 k v hv
      obtain ⟨d2, D2, rfl, h2, u2⟩ := HA.out.2.2.2 k u hu
      obtain rfl := h2.unique h1
      subst e1
      subst e2
      have l1 := lt_of_get l1'
      have l2 := lt_of_get l2'
      clear l1' l2'
      have HSR : Hid (∀ wx, Below w.heap.size w wx → Calls Try.prog 24 #[.slice (some ⟨d1, 0, none⟩) n n, .slice (some ⟨d2, 0, none⟩) n n] wx fun e w' => e = .returned (.bool true) ∧ Below wx.heap.size wx w') := fun wx hwx => by
        have hl := h1.1
        have h := sameRow_yes (some ⟨d1, 0, none⟩) (some ⟨d2, 0, none⟩) n n D2 wx (URow.keep (Or.inr ⟨d1, rfl, u1⟩) hwx) (URow.keep (Or.inr ⟨d2, rfl, u2⟩) hwx) (by rw [hl]; unfold maxLen; omega)
        rw [hl] at h
        exact h
      have i1 : (k : Int) < (n : Int) := by omega
      have i2 : (0 : Int) ≤ (k : Int) := by omega
      clear hv hu h1 h2 u1 u2
      go_wp2_with fail
      go_region_held3 (fun w' => w'.cell? ⟨b1, k, none⟩ = some (.slice (some ⟨d1, 0, none⟩) n n) ∧ w'.cell? ⟨b2, k, none⟩ = some (.slice (some ⟨d2, 0, none⟩) n n)) (go_keep) (first
        | (go_at_call 24; refine (HSR.out _ HBW.out.drew).mono ?_; rintro e w3 ⟨rfl, hb3⟩; have H3 : Hid (Below w.heap.size w w3) := HBW.out.drew.trans (hb3.mono HBW.out.size); have r1 := (hb3.cell (p := ⟨b1, k, none⟩) l1).trans q1; have r2 := (hb3.cell (p := ⟨b2, k, none⟩) l2).trans q2; clear hb3))
      go_wp2
      go_roundw
      case rel => exact ⟨k + 1, by omega, by go_num, H3.out⟩
      case measure => simp [intOf]; omega
    · go_wp2
      go_ret
      exact ⟨rfl, HBW.out⟩
end Go.Proofs.Ytefcmpdnlbpjpaa
