/- fault.First over a row of errors that are numbers or nothing: the first that is something. -/
import Derived.Test.YtkmbffdjgpjojabDoorErrI
import Derived.Test.YtkmbffdjgpjojabDoorCode
namespace Go.Proofs.YtkmbffdjgpjojabDoor
open Go.RowKit Go.Extern

/-- the first value that is something. -/
def firstVal : List Value → Value
  | [] => .nilIface
  | .nilIface :: vs => firstVal vs
  | v :: _ => v
theorem first_skip : ∀ (k : Nat) (vs : List Value), (∀ j, j < k → vs[j]? = some .nilIface) → firstVal vs = firstVal (vs.drop k)
  | 0, vs, _ => by simp
  | k + 1, [], h => by have := h 0 (by omega); simp at this
  | k + 1, v :: vs, h => by
    have h0 := h 0 (by omega)
    simp at h0
    subst h0
    simp only [firstVal, List.drop_succ_cons]
    exact first_skip k vs (fun j hj => by simpa using h (j + 1) (by omega))

theorem first_none (w : World) : Calls Tryd.prog 10 #[.slice none 0 0] w fun e w' => e = .returned .nilIface ∧ w' = w := by
  go_enter Tryd.func10, Tryd.ntmps10
  go_wp2
  go_loop [7] (fun i => i = .int .i64 0) (fun _ => 0)
  case atStart => rfl
  case round =>
    subst hrel
    go_wp2
    go_ret
    exact ⟨rfl, rfl⟩

set_option maxHeartbeats 1000000 in
theorem first_calls (b cap : Nat) (vs : List Value) (w : World) (hn : vs.length ≤ 1000) (hvs : ∀ v ∈ vs, v = .nilIface ∨ ∃ x, v = .iface 27 (.int .i64 x)) (hc : ∀ j v, vs[j]? = some v → w.cell? ⟨b, j, none⟩ = some v) :
    Calls Tryd.prog 10 #[.slice (some ⟨b, 0, none⟩) vs.length cap] w fun e w' => e = .returned (firstVal vs) ∧ w' = w := by
  have HC : Hid (∀ j v, vs[j]? = some v → w.cell? ⟨b, j, none⟩ = some v) := hc
  have HVS : Hid (∀ v ∈ vs, v = .nilIface ∨ ∃ x, v = .iface 27 (.int .i64 x)) := hvs
  clear hc hvs
  go_enter Tryd.func10, Tryd.ntmps10
  go_wp2
  go_loop [7] (fun i => ∃ k : Nat, k ≤ vs.length ∧ i = .int .i64 k ∧ ∀ j, j < k → vs[j]? = some .nilIface) (fun i => vs.length - (intOf i).toNat)
  case atStart => exact ⟨0, Nat.zero_le _, rfl, fun j hj => by omega⟩
  case round =>
    obtain ⟨k, hk, rfl, hnil⟩ := hrel
    have HNIL : Hid (∀ j, j < k → vs[j]? = some .nilIface) := hnil
    clear hnil
    by_cases hlt : k < vs.length
    · obtain ⟨v, hv⟩ : ∃ v, vs[k]? = some v := ⟨vs[k], List.getElem?_eq_getElem hlt⟩
      have hcell := HC.out k v hv
      have HV : Hid (vs[k]? = some v) := hv
      clear hv
      rcases HVS.out v (List.mem_of_getElem? HV.out) with h | ⟨x, h⟩
      · subst h
        go_wp2
        go_round
        case rel =>
          refine ⟨k + 1, by omega, by go_num, fun j hj => ?_⟩
          by_cases e : j = k
          · subst e; exact HV.out
          · exact HNIL.out j (by omega)
        case measure => simp [intOf]; omega
      · subst h
        go_wp2
        go_ret
        refine ⟨?_, rfl⟩
        have hf : firstVal vs = .iface 27 (.int .i64 x) := by
          rw [first_skip k vs HNIL.out]
          have : vs.drop k = .iface 27 (.int .i64 x) :: vs.drop (k + 1) := by
            have hg := (List.getElem?_eq_some_iff.1 HV.out).2
            rw [List.drop_eq_getElem_cons hlt, hg]
          rw [this]; rfl
        rw [hf]; rfl
    · have hkq : k = vs.length := by omega
      go_wp2
      go_ret
      refine ⟨?_, rfl⟩
      have hf : firstVal vs = .nilIface := by
        rw [first_skip k vs HNIL.out, hkq, List.drop_length]; rfl
      rw [hf]; rfl
end Go.Proofs.YtkmbffdjgpjojabDoor
