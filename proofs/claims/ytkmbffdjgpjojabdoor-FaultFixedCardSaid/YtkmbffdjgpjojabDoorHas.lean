/- fault.Has, whatever the chain ends in; ref01.Twin: a copy of a list of places. -/
import Derived.Test.YtkmbffdjgpjojabDoorOther
import Derived.Test.YtkmbffdjgpjojabDoorText
import Derived.Test.YtkmbffdjgpjojabDoorChain
import Derived.Test.YtkmbffdjgpjojabDoorPlaces
namespace Go.Proofs.YtkmbffdjgpjojabDoor
open Go.RowKit Go.Extern

set_option maxHeartbeats 4000000 in
/-- the inner errors.is, over a chain of one fault at least that ends in nil. -/
theorem is_nil (ps : List (Int × Int)) (m : Int) (v : Value) (w : World) (hv : IsErr w .nilIface ps v) (hp : ps ≠ []) :
    Calls Tryd.prog 29 #[v, .iface 27 (.int .i64 m), .bool true] w fun ev w' => ev = .returned (.bool false) ∧ w' = w := by
  have q2 := Tryd.eq3024
  have g1 := Tryd.noIs30
  have g2 := Tryd.un30
  have g3 := Tryd.methodUnwrap
  go_enter Tryd.func29, Tryd.ntmps29
  go_wp2
  go_loop [0] (fun u => ∃ qs : List (Int × Int), qs ≠ [] ∧ qs.length ≤ ps.length ∧ IsErr w .nilIface qs u) (fun u => depthOf w ps.length u)
  case atStart => exact ⟨ps, hp, Nat.le_refl _, hv⟩
  case round =>
    obtain ⟨qs, hne, hl, hq⟩ := hrel
    have hd := depth_isErr (fun m => depthNil w m) ps.length hq hl
    cases qs with
    | nil => exact absurd rfl hne
    | cons q qs =>
      clear hne
      obtain ⟨b, u', rfl, hb, hr⟩ := hq
      have hc : w.cell? ⟨b, 2, none⟩ = some u' := (cell_of_fault hb).2.2
      have hd' := depth_isErr (fun m => depthNil w m) ps.length hr (by simp at hl; omega)
      have HD : Hid (depthOf w ps.length u' < depthOf w ps.length (.iface 34 (.pointer (some ⟨b, 0, none⟩)))) := by show _ < _; rw [hd, hd']; simp
      clear hd hd'
      cases qs with
      | nil =>
        obtain rfl := hr
        go_wp2_with (go_at_call 78; refine (unwrap_fault b _ _ hc).mono ?_; rintro e w' ⟨rfl, rfl⟩)
        go_ret
        exact ⟨rfl, rfl⟩
      | cons q' qs =>
        have HR : Hid (IsErr w .nilIface (q' :: qs) u') := hr
        obtain ⟨b', u'', rfl, _, _⟩ := hr
        go_wp2_with (go_at_call 78; refine (unwrap_fault b _ _ hc).mono ?_; rintro e w' ⟨rfl, rfl⟩)
        go_round
        case rel => exact ⟨q' :: qs, by simp, by simp at hl ⊢; omega, HR.out⟩
        case measure => exact HD.out
/-- errors.Is of nil at a number. -/
theorem errorsIs_nothing (m : Int) (w : World) : Calls Tryd.prog 18 #[.nilIface, .iface 27 (.int .i64 m)] w fun ev w' => ev = .returned (.bool false) ∧ w' = w := by
  have q := fun w => run_eql_iface_nil_left (P := Tryd.prog) (w := w) 27 (.int .i64 m) Tryd.underlying24
  go_enter Tryd.func18, Tryd.ntmps18
  go_wp2
  go_ret
  exact ⟨rfl, rfl⟩
theorem errorsIs_nil (ps : List (Int × Int)) (m : Int) (v : Value) (w : World) (hv : IsErr w .nilIface ps v) :
    Calls Tryd.prog 18 #[v, .iface 27 (.int .i64 m)] w fun ev w' => ev = .returned (.bool false) ∧ w' = w := by
  cases ps with
  | nil => obtain rfl := hv; exact errorsIs_nothing m w
  | cons p ps =>
    have h := is_nil (p :: ps) m v w hv (by simp)
    obtain ⟨b, u, e, _⟩ := hv
    exact is_outer v _ 34 m w _ e h

/-- is m the number that a counted chain tells? -/
def hasNum (tv : Value) (m : Int) : Bool := match tv with
  | .iface 27 (.int .i64 n) => n == m
  | _ => false
set_option maxHeartbeats 1000000 in
theorem has_calls (ps : List (Int × Int)) {tv : Value} (htv : Tail3 tv) (v : Value) (m : Int) (w : World) (hv : IsErr w tv ps v) :
    Calls Tryd.prog 12 #[v, .int .i64 m] w fun e w' => e = .returned (.bool (hasNum (cutTail (strip tv) ps 64) m)) ∧ Below w.heap.size w w' := by
  have hct : cutTail (strip tv) ps 64 = .nilIface ∨ ∃ n, cutTail (strip tv) ps 64 = .iface 27 (.int .i64 n) := by
    unfold cutTail; split
    · exact strip_or htv
    · exact Or.inl rfl
  have HIS : Hid (∀ w1 v1, IsErr w1 (cutTail (strip tv) ps 64) (ps.take 64) v1 → Calls Tryd.prog 18 #[v1, .iface 27 (.int .i64 m)] w1 fun e w' => e = .returned (.bool (hasNum (cutTail (strip tv) ps 64) m)) ∧ w' = w1) := fun w1 v1 h1 => by
    rcases hct with hc | ⟨n, hc⟩
    · rw [hc] at h1 ⊢; exact errorsIs_nil _ m v1 w1 h1
    · rw [hc] at h1 ⊢; exact errorsIs_num _ n m v1 w1 h1
  have HC : Hid (Calls Tryd.prog 24 #[v, .int .i64 64] w fun e w' => ∃ v', e = .returned v' ∧ IsErr w' (cutTail (strip tv) ps 64) (ps.take 64) v' ∧ Below w.heap.size w w') := counted_gen htv 64 ps v w (by omega) hv
  clear hv htv hct
  generalize hasNum (cutTail (strip tv) ps 64) m = R at HIS
  go_enter Tryd.func12, Tryd.ntmps12
  go_wp2_with fail
  refine HC.out.mono ?_
  rintro e w1 ⟨v1, rfl, h1, hb1⟩
  have H1 : Hid (Calls Tryd.prog 18 #[v1, .iface 27 (.int .i64 m)] w1 fun e w' => e = .returned (.bool R) ∧ w' = w1) := HIS.out w1 v1 h1
  clear h1
  go_wp2_with fail
  refine H1.out.mono ?_
  rintro e w2 ⟨rfl, hw⟩
  subst hw
  go_wp2
  go_ret
  exact ⟨rfl, hb1⟩
end Go.Proofs.YtkmbffdjgpjojabDoor
