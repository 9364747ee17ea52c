/- NormalDistances at a graph with many nodes, or one that is no graph. -/
import Derived.Test.YtldfhkdccbgdnaaFewW
import Derived.Test.YtldfhkdccbgdnaaAwake
import Derived.Test.YtldfhkdccbgdnaaTwiceM
namespace Go.Proofs.Ytldfhkdccbgdnaa
open Go.RowKit Go.Extern

attribute [local go_sem] Oper.semAt_some

set_option maxRecDepth 100000 in
set_option maxHeartbeats 4000000 in
theorem dists_bad (N M : Int) (ao bo : Option Addr) (qa ca qb cb : Nat) (xs ys : List (Int × Int × Int)) (w : World) (hx : HasArcs w (.slice ao qa ca) xs) (hy : HasArcs w (.slice bo qb cb) ys) (hmx : xs.length ≤ maxLen) (hmy : ys.length ≤ maxLen) (hf : ¬ (isFew N xs = true ∧ isFew M ys = true)) : Calls Try.prog 3 #[.agg #[.int .i64 N, .slice ao qa ca], .agg #[.int .i64 M, .slice bo qb cb]] w fun e w' => e = .returned (.bool true) ∧ Below w.heap.size w w' := by
  have HF : Hid (¬ (isFew N xs = true ∧ isFew M ys = true)) := hf
  have hG1 := Gr.new N hx
  have HG0 : Hid (∀ X, (w.alloc (.cells #[.int .i64 N, .slice ao qa ca] 24)).alloc (.cells #[.int .i64 M, .slice bo qb cb] 24) = X → Below w.heap.size w X ∧ Gr X w.heap.size N ao qa ca xs ∧ Gr X (w.heap.size + 1) M bo qb cb ys) := fun X e => by
    have s1 : (w.alloc (.cells #[.int .i64 N, .slice ao qa ca] 24)).heap.size = w.heap.size + 1 := by simp
    obtain ⟨h2, h3⟩ := Gr.new M (hy.keep hG1.2)
    rw [e] at h2 h3
    rw [s1] at h2
    exact ⟨hG1.2.trans (h3.mono (by omega)), hG1.1.keep h3, h2⟩
  have HM : Hid (xs.length ≤ maxLen ∧ ys.length ≤ maxLen) := ⟨hmx, hmy⟩
  clear hx hy hG1 hf hmx hmy
  go_enter Try.func3, Try.ntmps3
  go_wp2_with fail
  generalize hW0 : (w.alloc (.cells #[.int .i64 N, .slice ao qa ca] 24)).alloc (.cells #[.int .i64 M, .slice bo qb cb] 24) = W0
  have I0 : Hid (Below w.heap.size w W0 ∧ Gr W0 w.heap.size N ao qa ca xs ∧ Gr W0 (w.heap.size + 1) M bo qb cb ys) := HG0.out W0 hW0
  clear hW0 HG0
  refine (awake_calls _).mono ?_
  rintro e w1 ⟨rfl, h⟩
  have I1 : Hid (Below w.heap.size w w1 ∧ Gr w1 w.heap.size N ao qa ca xs ∧ Gr w1 (w.heap.size + 1) M bo qb cb ys) := ⟨I0.out.1.trans (h.mono I0.out.1.size), I0.out.2.1.keep h, I0.out.2.2.keep h⟩
  clear h
  obtain ⟨ca0, ca1, cas⟩ := I1.out.2.1.cells
  obtain ⟨cb0, cb1, cbs⟩ := I1.out.2.2.cells
  go_wp2_with fail
  refine (few_calls N _ _ _ _ _ I1.out.2.1.arcs HM.out.1).mono ?_
  rintro e w2 ⟨rfl, h⟩
  have I2 : Hid (Below w.heap.size w w2 ∧ Gr w2 w.heap.size N ao qa ca xs ∧ Gr w2 (w.heap.size + 1) M bo qb cb ys) := ⟨I1.out.1.trans (h.mono I1.out.1.size), I1.out.2.1.keep h, I1.out.2.2.keep h⟩
  clear h ca0 ca1 cas cb0 cb1 cbs
  obtain ⟨ca0, ca1, cas⟩ := I2.out.2.1.cells
  obtain ⟨cb0, cb1, cbs⟩ := I2.out.2.2.cells
  cases h1 : isFew N xs with
  | false =>
    go_wp2
    go_ret
    exact ⟨rfl, I2.out.1⟩
  | true =>
    have h2 : isFew M ys = false := by
      cases h : isFew M ys with
      | false => rfl
      | true => exact absurd ⟨h1, h⟩ HF.out
    have hfw := few_calls M _ _ _ _ _ I2.out.2.2.arcs HM.out.2
    rw [h2] at hfw
    have HFW : Hid (type_of% hfw) := hfw
    clear hfw
    go_wp2_with fail
    refine HFW.out.mono ?_
    rintro e w3 ⟨rfl, h⟩
    have I3 : Hid (Below w.heap.size w w3) := I2.out.1.trans (h.mono I2.out.1.size)
    clear h
    go_wp2
    go_ret
    exact ⟨rfl, I3.out⟩
end Go.Proofs.Ytldfhkdccbgdnaa
