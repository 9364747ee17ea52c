/- StampAges holds: for every number of places, all first ages and every list of calls the law answers true and its arguments read as they did. No condition beside the row's own. -/
import Derived.Test.YtlgdhoemjllfdaaLift
import Derived.Test.YtlgdhoemjllfdaaOpenP
import Derived.Test.YtlgdhoemjllfdaaAges
namespace Go.Proofs.Ytlgdhoemjllfdaa
open Go.ChangeShapes Go.WideShapes Go.ChangeAt Go.RowKit

set_option maxRecDepth 100000 in
set_option maxHeartbeats 1000000 in
theorem ages_out (n : Int) (hn : n < 1 ∨ 100 < n) (a b : Int) (v : Value) (w : World) : Calls Try.prog 3 #[.int .i64 n, .int .u32 a, .int .u32 b, v] w fun e w' => e = .returned (.bool true) ∧ Below w.heap.size w w' := by
  have HAW : Hid (type_of% (awake_calls w)) := awake_calls w
  rcases (show n < 1 ∨ (¬ n < 1 ∧ 100 < n) by omega) with h | ⟨h, h2⟩
  all_goals
    go_enter Try.func3, Try.ntmps3
    go_wp2_with fail
    refine HAW.out.mono ?_
    rintro e w1 ⟨rfl, hb1⟩
    have BW1 : Hid (Below w.heap.size w w1) := hb1
    clear hb1
    go_wp2
    go_ret
    exact ⟨rfl, BW1.out⟩
theorem ages_any (n a b : Int) (a0 : 0 ≤ a) (a1 : a ≤ 4294967295) (b0 : 0 ≤ b) (b1 : b ≤ 4294967295) (so : Option Addr) (sc : Nat) (L : List Op3) (w : World) (ho : HasOps w (.slice so L.length sc) L) (hm : L.length ≤ maxLen) (hs : L.length ≤ sc) (hc : sc ≤ maxLen) : Calls Try.prog 3 #[.int .i64 n, .int .u32 a, .int .u32 b, .slice so L.length sc] w fun e w' => e = .returned (.bool true) ∧ Below w.heap.size w w' := by
  by_cases hb : n < 1 ∨ 100 < n
  · exact ages_out n hb a b _ w
  · obtain ⟨k, rfl⟩ : ∃ k : Nat, n = k := ⟨n.toNat, by omega⟩
    exact ages_calls k (by omega) (by omega) a b a0 a1 b0 b1 so L.length sc L w ho rfl hm hs hc

set_option maxRecDepth 100000 in
theorem ages_lifted (os : Os) (started : os.Started) (H : Type) (enc : TypeId × Value → H) :
    ReturnsInHanded {} Try.checked os 3 .any (Rows.stampAgesSpec.pre6 enc Try.prog Try.f3 Rows.stampAgesRow.domain false) (Rows.stampAgesSpec.post enc Try.prog Try.f3 false true false false) := by
  refine returnsInHanded_of_change (C := Try.checked) Try.own started (by kernel_rfl) Try.func3
    (ChangeSpec.witness6 (enc := enc) (C := Try.checked) false ⟨#[], #[.int .i64 0, .int .u32 0, .int .u32 0, .slice none 0 0], []⟩ 8 (by kernel_rfl) (by kernel_rfl) (by kernel_rfl) (by kernel_rfl)) ?_
  intro W base args ds gs before hval0 hW _ _
  have hval : ∀ (j : Nat) t v, Try.f3.params[j]? = some t → args[j]? = some v → Value.okWide Try.prog W .any base t v := hval0
  have hW' := hW
  obtain ⟨p, q, hA0, hV, rfl, hfz, hnd⟩ := hW
  have hA : DataW.TrodAll enc Try.prog W 0 (fun _ => true) true Try.f3.params.toList args.toList ds p := hA0
  rw [Try.params3] at hA hval
  obtain ⟨v0, v1, v2, v3, d0, d1, d2, d3, p0, p1, p2, p3, rfl, rfl, rfl, h0, h1, h2, h3⟩ := trodAll_four hA
  obtain ⟨rfl, rfl⟩ := trodVars_none hV
  obtain ⟨n, rfl, _, _, _⟩ := open_int Try.underlying3 (hval 0 3 v0 rfl rfl) h0
  obtain ⟨a, rfl, _, _, ha⟩ := open_int Try.underlying22 (hval 1 22 v1 rfl rfl) h1
  obtain ⟨b, rfl, _, _, hb⟩ := open_int Try.underlying22 (hval 2 22 v2 rfl rfl) h2
  obtain ⟨so, sc, L, rfl, hO, hm, hs, hc⟩ := ops_open (hval 3 23 v3 rfl rfl) h3
  refine (ages_any n a b (u32_range ha).1 (u32_range ha).2 (u32_range hb).1 (u32_range hb).2 so sc L W hO hm hs hc).mono fun e W' ⟨he, hw⟩ => ?_
  subst he
  exact ⟨_, rfl, post_of_law hW' rfl (by kernel_rfl) rfl (by rw [Try.params3]; intro t ht; simp at ht; rcases ht with rfl | rfl | rfl <;> exact ⟨by kernel_rfl, of_decide_eq_true (by kernel_rfl)⟩) hw⟩

theorem ages_holds : Rows.StampAgesSaid :=
  OpenClaim.holds_of_wide 3 Try.f3 rfl rfl rfl rfl rfl rfl rfl ⟨rfl, rfl, rfl, rfl, rfl⟩ rfl rfl rfl rfl rfl (by kernel_rfl) Try.func3 (by kernel_rfl)
    (of_decide_eq_true (by kernel_rfl)) (by unfold Func.isWrapper; rw [if_neg (of_decide_eq_false (by kernel_rfl))]; exact ⟨rfl, rfl⟩)
    (fun os started H enc _ => ages_lifted os started H enc)
#print axioms ages_holds
end Go.Proofs.Ytlgdhoemjllfdaa
