/- errors.As, whole: at a target of faults where the error is a fault or a number, at a target of numbers over a chain that ends in a number or in nothing. -/
import Derived.Test.YtcfpkbmeblfhoaaGreatDoorErrD
namespace Go.Proofs.YtcfpkbmeblfhoaaGreatDoor
open Go.RowKit Go.Extern

set_option maxHeartbeats 4000000 in
/-- the inner errors.as: a number at a target of faults. -/
theorem as32_num (x : Value) (t a : Addr) (w : World) :
    Calls Tryz.prog 59 #[.iface 60 x, .iface 88 (.pointer (some t)), .agg #[.pointer (some ⟨1, 88, none⟩), .pointer (some a), .int .u64 150], .iface 180 (.agg #[.pointer (some ⟨1, 86, none⟩)])] w fun ev w' =>
      ev = .returned (.bool false) ∧ w' = w.alloc (.cells #[.pointer (some ⟨1, 88, none⟩), .pointer (some a), .int .u64 150] 140) := by
  have h33 := x33
  have h95 := x95
  have f1 := Tryz.typeOf24
  have f2 := Tryz.methodAssignableTo
  have f3 := Tryz.asg2430
  have g1 := Tryz.noAs24
  have g2 := Tryz.noUn24
  have g3 := Tryz.noUns24
  go_enter Tryz.func59, Tryz.ntmps59
  go_wp2
  refine wp_loop_rounds 1 ?_
  rw [rounds_succ]
  go_wp2
  go_ret
  exact ⟨rfl, rfl⟩

set_option maxHeartbeats 4000000 in
/-- the inner errors.as: a chain of one fault at least that ends in nil, at a target of numbers. -/
theorem as77_nil (ps : List (Int × Int)) (v : Value) (t a : Addr) (w : World) (hv : IsErr w .nilIface ps v) (hp : ps ≠ []) :
    Calls Tryz.prog 59 #[v, .iface 91 (.pointer (some t)), .agg #[.pointer (some ⟨1, 91, none⟩), .pointer (some a), .int .u64 150], .iface 180 (.agg #[.pointer (some ⟨1, 60, none⟩)])] w fun ev w' =>
      ev = .returned (.bool false) ∧ w' = w.alloc (.cells #[.pointer (some ⟨1, 91, none⟩), .pointer (some a), .int .u64 150] 140) := by
  have h33 := x33
  have h95 := x95
  have f1 := Tryz.typeOf30
  have f2 := Tryz.methodAssignableTo
  have f3 := Tryz.asg3024
  have g1 := Tryz.noAs30
  have g2 := Tryz.un30
  have g3 := Tryz.methodUnwrap
  go_enter Tryz.func59, Tryz.ntmps59
  go_wp2
  go_loop [0] (fun u => ∃ qs : List (Int × Int), qs ≠ [] ∧ qs.length ≤ ps.length ∧ IsErr w .nilIface qs u) (fun u => depthOf w ps.length u)
  case atStart => exact ⟨ps, hp, Nat.le_refl _, hv⟩
  case round =>
    obtain ⟨qs, hne, hl, hq⟩ := hrel
    have hd := depth_isErr (fun m => depthNil w m) ps.length hq hl
    cases qs with
    | nil => exact absurd rfl hne
    | cons q qs =>
      clear hne
      obtain ⟨b, u', rfl, hb, hr⟩ := hq
      have hc : (w.alloc (.cells #[.pointer (some ⟨1, 91, none⟩), .pointer (some a), .int .u64 150] 140)).cell? ⟨b, 2, none⟩ = some u' := by
        rw [World.cell?_alloc_lt _ _ _ (lt_of_get hb)]; exact (cell_of_fault hb).2.2
      have hd' := depth_isErr (fun m => depthNil w m) ps.length hr (by simp at hl; omega)
      have HD : Hid (depthOf w ps.length u' < depthOf w ps.length (.iface 86 (.pointer (some ⟨b, 0, none⟩)))) := by show _ < _; rw [hd, hd']; simp
      clear hd hd'
      cases qs with
      | nil =>
        obtain rfl := hr
        go_wp2_with (go_at_call 153; refine (unwrap_fault b _ _ hc).mono ?_; rintro e w' ⟨rfl, rfl⟩)
        go_ret
        exact ⟨rfl, rfl⟩
      | cons q' qs =>
        have HR : Hid (IsErr w .nilIface (q' :: qs) u') := hr
        obtain ⟨b', u'', rfl, _, _⟩ := hr
        go_wp2_with (go_at_call 153; refine (unwrap_fault b _ _ hc).mono ?_; rintro e w' ⟨rfl, rfl⟩)
        go_round
        case rel => exact ⟨q' :: qs, by simp, by simp at hl ⊢; omega, HR.out⟩
        case measure => exact HD.out
end Go.Proofs.YtcfpkbmeblfhoaaGreatDoor
