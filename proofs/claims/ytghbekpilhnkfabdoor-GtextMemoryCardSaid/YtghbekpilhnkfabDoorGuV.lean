/- a graph among the arguments: its arcs, and how many they may be. -/
import Derived.Test.YtghbekpilhnkfabDoorOpen
import Derived.SizedLaws
namespace Go.Proofs.YtghbekpilhnkfabDoor
open Go.ChangeShapes Go.WideShapes Go.RowKit Go.Deep

theorem Tryd.bytesA : Tryd.prog.bytesOf 42 = 24 := by kernel_rfl
/-- how a list of arcs reads. -/
def ReadsA {H : Type} (d : DataW H) (n : Nat) : Prop := n = 0 ∨ ∃ el sp, d = .slice el sp ∧ el.length = n
set_option maxRecDepth 100000 in
theorem graph_open2 {H : Type} {enc : TypeId × Value → H} {W : World} {base : Nat} {v : Value} {d : DataW H} {p : List MemPlace} (hv : Value.okWide Tryd.prog W .any base 24 v) (h : DataW.Trod enc Tryd.prog W 0 (fun _ => true) true 24 v d p) :
    ∃ (N : Int) (ao : Option Addr) (cap : Nat) (xs : List (Int × Int × Int)), v = .agg #[.int .i64 N, .slice ao xs.length cap] ∧ HasArcs W (.slice ao xs.length cap) xs ∧ (ao = none → cap = 0) ∧ ∃ d0 d1, d = .agg [d0, d1] ∧ ReadsA d1 xs.length := by
  obtain ⟨N, ao, cap, xs, rfl, hA, _⟩ := graph_open hv h
  obtain ⟨fuel, hf⟩ := h
  have hf' : DataW.trod enc Tryd.prog W 0 (fun _ => true) true fuel 24 [.int .i64 N, .slice ao xs.length cap] = some (d, p) := hf
  obtain ⟨y0, y1, m, hd, _, t0, t1⟩ := trod_struct2 Tryd.underlying24 hf'
  rw [Tryd.cells22] at t1
  simp at t1
  have hdd : d = .agg [y0.1, y1.1] := congrArg Prod.fst hd
  rcases open_slice Tryd.underlying22 t1 with ⟨hcs, _⟩ | ⟨a, len', cap', m, n, D, Pl, hcs, _, hl, hm, hmm, hy, hx⟩
  · have e : Value.slice ao xs.length cap = .slice none 0 0 := by simpa using hcs
    injection e with e1 e2 e3
    exact ⟨N, ao, cap, xs, rfl, hA, (fun _ => e3), y0.1, y1.1, hdd, Or.inl e2⟩
  · have e : Value.slice ao xs.length cap = .slice (some a) len' cap' := by simpa using hcs
    injection e with e1 e2 e3
    refine ⟨N, ao, cap, xs, rfl, hA, (fun e => by rw [e1] at e; cases e), y0.1, y1.1, hdd, Or.inr ⟨_, _, by rw [hy], ?_⟩⟩
    rw [List.length_map, List.length_range]
    exact e2.symm
/-- the list of arcs takes no more than the form's reach. -/
theorem reach_arcs {H : Type} {ts : List TypeId} {r : List (DataW H)} {d0 d1 : DataW H} (hsz : (DataW.weightsEach Tryd.prog (24 :: ts) (.agg [d0, d1] :: r)).all (· ≤ reachBytes) = true) {n : Nat} (hr : ReadsA d1 n) : n * 24 ≤ 140737488351232 := by
  rcases hr with rfl | ⟨el, sp, rfl, hl⟩
  · simp
  · have hm := List.all_eq_true.1 hsz _ (DataW.weights_mem_each (j := 0) (t := 24) (d := .agg [d0, .slice el sp]) rfl rfl ((el.length + sp.length) * Tryd.prog.bytesOf 42) (by
      simp [DataW.weights, DataW.weightsEach, Tryd.underlying24, Tryd.underlying22]))
    have hm' : (el.length + sp.length) * Tryd.prog.bytesOf 42 ≤ reachBytes := by simpa using hm
    rw [Tryd.bytesA] at hm'
    unfold reachBytes at hm'
    omega
end Go.Proofs.YtghbekpilhnkfabDoor
