/- viaductref04.SameRow, SameMatrix at rows that are one, told by a matrix in memory. -/
import Derived.Test.YthgmhhlgjooeaaaGreatDoorDsW
import Derived.BigQuiet
import Derived.Deep.RegionHeld3
namespace Go.Proofs.YthgmhhlgjooeaaaGreatDoor
open Go.RowKit Go.Extern

attribute [local go_sem] Oper.semAt_some

def U64s (w : World) (b : Nat) (D : List Int) : Prop := w.heap[b]? = some (.cells (D.map (Value.int .u64)).toArray 86)
theorem U64s.at {w : World} {b : Nat} {D : List Int} (h : U64s w b D) {k : Nat} {x : Int} (hk : D[k]? = some x) : w.cell? ⟨b, k, none⟩ = some (.int .u64 x) ∧ b < w.heap.size ∧ w.frozen? ⟨b, k, none⟩ = false := by
  refine ⟨?_, lt_of_get h, ?_⟩
  · simp [World.cell?, show w.heap[b]? = _ from h, hk]
  · simp [World.frozen?, show w.heap[b]? = _ from h]
/-- a row of numbers, or none at all. -/
def URow (w : World) (ao : Option Addr) (D : List Int) : Prop := (ao = none ∧ D = []) ∨ ∃ b, ao = some ⟨b, 0, none⟩ ∧ U64s w b D
theorem URow.at {w : World} {ao : Option Addr} {D : List Int} (h : URow w ao D) {k : Nat} {x : Int} (hk : D[k]? = some x) : ∃ b, ao = some ⟨b, 0, none⟩ ∧ b < w.heap.size ∧ w.cell? ⟨b, k, none⟩ = some (.int .u64 x) := by
  rcases h with ⟨_, rfl⟩ | ⟨b, h1, h2⟩
  · simp at hk
  · exact ⟨b, h1, (h2.at hk).2.1, (h2.at hk).1⟩
theorem URow.keep {w w' : World} {ao : Option Addr} {D : List Int} (h : URow w ao D) (hb : Below w.heap.size w w') : URow w' ao D := by
  rcases h with h | ⟨b, h1, h2⟩
  · exact Or.inl h
  · exact Or.inr ⟨b, h1, (hb.block _ (lt_of_get h2)).trans h2⟩

set_option maxRecDepth 100000 in
set_option maxHeartbeats 1000000 in
theorem sameRow_yes (ao bo : Option Addr) (ac bc : Nat) (D : List Int) (w : World) (ha : URow w ao D) (hb : URow w bo D) (hm : D.length ≤ maxLen) :
    Calls Tryz.prog 36 #[.slice ao D.length ac, .slice bo D.length bc] w fun e w' => e = .returned (.bool true) ∧ Below w.heap.size w w' := by
  unfold maxLen at hm
  have HA : Hid (URow w ao D) := ha
  have HB : Hid (URow w bo D) := hb
  clear ha hb
  go_enter Tryz.func36, Tryz.ntmps36
  go_wp2_with fail
  go_loopw [13] (fun iv wr => ∃ k : Nat, k ≤ D.length ∧ iv = .int .i64 k ∧ Below w.heap.size w wr) (fun iv _ => D.length - (intOf iv).toNat)
  case atStart => exact ⟨0, Nat.zero_le _, rfl, Below.refl _ _⟩
  case round =>
    obtain ⟨k, hk, rfl, hbw⟩ := hrel
    by_cases hlt : k < D.length
    · obtain ⟨p, hp⟩ : ∃ p, D[k]? = some p := ⟨D[k], List.getElem?_eq_getElem hlt⟩
      obtain ⟨b, hao, hl1, q0⟩ := HA.out.at hp
      obtain ⟨b', hbo, hl2, r0⟩ := HB.out.at hp
      subst hao
      subst hbo
      have a0 := (hbw.cell (p := ⟨b, k, none⟩) hl1).trans q0
      have b0 := (hbw.cell (p := ⟨b', k, none⟩) hl2).trans r0
      have i1 : (k : Int) < (D.length : Int) := by omega
      have i2 : (0 : Int) ≤ (k : Int) := by omega
      have HBW : Hid (Below w.heap.size w wr) := hbw
      clear q0 r0 hp hbw
      go_wp2_with fail
      go_quiet (fail)
      have HB4 : Hid (Below w.heap.size w (wr.drewN nq)) := below_drewN HBW.out nq
      go_wp2
      go_roundw
      case rel => exact ⟨k + 1, by omega, by go_num, HB4.out⟩
      case measure => simp [intOf]; omega
    · go_wp2
      go_ret
      exact ⟨rfl, hbw⟩
/-- a row of a matrix, as a list. -/
def rowD (n : Nat) (f : Ds.Mx) (i : Nat) : List Int := (List.range n).map (f i)
def RowsOf (w : World) (n : Nat) (f : Ds.Mx) (vs : List Value) : Prop := ∀ (i : Nat) (v : Value), vs[i]? = some v → ∃ b, v = .slice (some ⟨b, 0, none⟩) n n ∧ U64s w b (rowD n f i)
def HasRows (w : World) (lo : Option Addr) (vs : List Value) : Prop := ∀ (i : Nat) (v : Value), vs[i]? = some v → ∃ b, lo = some ⟨b, 0, none⟩ ∧ (∃ cur, w.heap[b]? = some (.cells cur 85)) ∧ w.cell? ⟨b, i, none⟩ = some v
theorem HasRows.keep {w w' : World} {lo : Option Addr} {vs : List Value} (h : HasRows w lo vs) (hb : Below w.heap.size w w') : HasRows w' lo vs := fun i v hv => by
  obtain ⟨b, e, ⟨cur, hc⟩, c⟩ := h i v hv
  exact ⟨b, e, ⟨cur, (hb.block _ (lt_of_get hc)).trans hc⟩, (hb.cell (p := ⟨b, i, none⟩) (lt_of_get hc)).trans c⟩
theorem rows_mat {B n db : Nat} {w : World} {rs : Nat → Nat} {f : Ds.Mx} (h : Ds.MatP B w db n n rs f) : ∃ us : List Value, us.length = n ∧ HasRows w (some ⟨db, 0, none⟩) us ∧ RowsOf w n f us := by
  refine ⟨Ds.rowV n (Ds.rowS n n rs), by unfold Ds.rowV; simp, fun i v hv => ⟨db, rfl, ⟨_, h.top⟩, ?_⟩, fun i v hv => ?_⟩
  · have hl : i < n := by
      have := (List.getElem?_eq_some_iff.1 hv).1
      unfold Ds.rowV at this
      simpa using this
    rw [Ds.rowV_get n _ hl] at hv
    cases hv
    have := (h.at hl (Nat.le_refl _)).1
    unfold Ds.rowS
    rw [if_pos hl]
    exact this
  · have hl : i < n := by
      have := (List.getElem?_eq_some_iff.1 hv).1
      unfold Ds.rowV at this
      simpa using this
    rw [Ds.rowV_get n _ hl] at hv
    cases hv
    refine ⟨rs i, by unfold Ds.rowS; rw [if_pos hl], ?_⟩
    have hr := h.row i hl
    unfold U64s
    rw [hr]
    congr 2
    unfold Ds.rowV rowD
    apply congrArg List.toArray
    rw [List.map_map]
    rfl

set_option maxRecDepth 100000 in
set_option maxHeartbeats 4000000 in
theorem sameMatrix_yes (ao bo : Option Addr) (ac bc n : Nat) (f : Ds.Mx) (vs us : List Value) (w : World) (hv : vs.length = n) (hu : us.length = n) (ha : HasRows w ao vs) (hb : HasRows w bo us) (ma : RowsOf w n f vs) (mb : RowsOf w n f us) (hn : n ≤ 65536) :
    Calls Tryz.prog 11 #[.slice ao n ac, .slice bo n bc] w fun e w' => e = .returned (.bool true) ∧ Below w.heap.size w w' := by
  have HA : Hid (HasRows w ao vs ∧ HasRows w bo us ∧ RowsOf w n f vs ∧ RowsOf w n f us) := ⟨ha, hb, ma, mb⟩
  have HL : Hid (vs.length = n ∧ us.length = n) := ⟨hv, hu⟩
  clear ha hb ma mb hv hu
  go_enter Tryz.func11, Tryz.ntmps11
  go_wp2_with fail
  go_loopw [13] (fun iv wr => ∃ k : Nat, k ≤ n ∧ iv = .int .i64 k ∧ Below w.heap.size w wr) (fun iv _ => n - (intOf iv).toNat)
  case atStart => exact ⟨0, Nat.zero_le _, rfl, Below.refl _ _⟩
  case round =>
    obtain ⟨k, hk, rfl, hbw⟩ := hrel
    have HBW : Hid (Below w.heap.size w wr) := hbw
    clear hbw
    by_cases hlt : k < n
    · obtain ⟨v, hv⟩ : ∃ v, vs[k]? = some v := ⟨vs[k]'(by rw [HL.out.1]; exact hlt), List.getElem?_eq_getElem _⟩
      obtain ⟨u, hu⟩ : ∃ u, us[k]? = some u := ⟨us[k]'(by rw [HL.out.2]; exact hlt), List.getElem?_eq_getElem _⟩
      obtain ⟨b1, e1, ⟨_, l1'⟩, q1⟩ := (HA.out.1.keep HBW.out) k v hv
      obtain ⟨b2, e2, ⟨_, l2'⟩, q2⟩ := (HA.out.2.1.keep HBW.out) k u hu
      obtain ⟨d1, rfl, u1⟩ := HA.out.2.2.1 k v hv
      obtain ⟨d2, rfl, u2⟩ := HA.out.2.2.2 k u hu
      subst e1
      subst e2
      have l1 := lt_of_get l1'
      have l2 := lt_of_get l2'
      clear l1' l2'
      have HSR : Hid (∀ wx, Below w.heap.size w wx → Calls Tryz.prog 36 #[.slice (some ⟨d1, 0, none⟩) n n, .slice (some ⟨d2, 0, none⟩) n n] wx fun e w' => e = .returned (.bool true) ∧ Below wx.heap.size wx w') := fun wx hwx => by
        have hl : (rowD n f k).length = n := by unfold rowD; simp
        have h := sameRow_yes (some ⟨d1, 0, none⟩) (some ⟨d2, 0, none⟩) n n (rowD n f k) wx (URow.keep (Or.inr ⟨d1, rfl, u1⟩) hwx) (URow.keep (Or.inr ⟨d2, rfl, u2⟩) hwx) (by rw [hl]; unfold maxLen; omega)
        rw [hl] at h
        exact h
      have i1 : (k : Int) < (n : Int) := by omega
      have i2 : (0 : Int) ≤ (k : Int) := by omega
      clear hv hu u1 u2
      go_wp2_with fail
      go_region_held3 (fun w' => w'.cell? ⟨b1, k, none⟩ = some (.slice (some ⟨d1, 0, none⟩) n n) ∧ w'.cell? ⟨b2, k, none⟩ = some (.slice (some ⟨d2, 0, none⟩) n n)) (go_keep) (first
        | (go_at_call 36; refine (HSR.out _ HBW.out.drew).mono ?_; rintro e w3 ⟨rfl, hb3⟩; have H3 : Hid (Below w.heap.size w w3) := HBW.out.drew.trans (hb3.mono HBW.out.size); have r1 := (hb3.cell (p := ⟨b1, k, none⟩) l1).trans q1; have r2 := (hb3.cell (p := ⟨b2, k, none⟩) l2).trans q2; clear hb3))
      go_wp2
      go_roundw
      case rel => exact ⟨k + 1, by omega, by go_num, H3.out⟩
      case measure => simp [intOf]; omega
    · go_wp2
      go_ret
      exact ⟨rfl, HBW.out⟩
theorem sameMat_calls (n B C db dc : Nat) (rs ss : Nat → Nat) (f : Ds.Mx) (w : World) (hn : n ≤ 65536) (h1 : Ds.MatP B w db n n rs f) (h2 : Ds.MatP C w dc n n ss f) :
    Calls Tryz.prog 11 #[.slice (some ⟨db, 0, none⟩) n n, .slice (some ⟨dc, 0, none⟩) n n] w fun e w' => e = .returned (.bool true) ∧ Below w.heap.size w w' := by
  obtain ⟨vs, e1, q1, r1⟩ := rows_mat h1
  obtain ⟨us, e2, q2, r2⟩ := rows_mat h2
  exact sameMatrix_yes _ _ n n n f vs us w e1 e2 q1 q2 r1 r2 hn
end Go.Proofs.YthgmhhlgjooeaaaGreatDoor
