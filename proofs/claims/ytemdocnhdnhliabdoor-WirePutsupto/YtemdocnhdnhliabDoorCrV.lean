/- Bytes and words among the arguments, opened. -/
import Derived.Test.YtemdocnhdnhliabDoorFrame
import Derived.Test.YtemdocnhdnhliabDoorWrW
import Derived.Deep.Slices
import Derived.Deep.Strs
import Derived.SizedLaws
namespace Go.Proofs.YtemdocnhdnhliabDoor
open Go.ChangeShapes Go.WideShapes Go.RowKit Go.Deep Cr

theorem Tryd.cellsU8 : Tryd.prog.cellsOf 5 = 1 := by kernel_rfl
theorem add_plain (b o i : Nat) : (Addr.mk b o none).add i = ⟨b, o + i, none⟩ := by unfold Addr.add; split <;> simp_all
theorem choose_lt {α : Type} [Inhabited α] {n : Nat} {p : Nat → α → Prop} (h : ∀ i, i < n → ∃ x, p i x) : ∃ q : Nat → α, ∀ i, i < n → p i (q i) := by
  refine ⟨fun i => if hi : i < n then Classical.choose (h i hi) else default, fun i hi => ?_⟩
  simp only [dif_pos hi]
  exact Classical.choose_spec (h i hi)
theorem u8_range {x : Int} (h : (Lit.int .u8 x).wf = true) : 0 ≤ x ∧ x ≤ 255 := by
  simp [Lit.wf] at h
  have e1 : IntKind.u8.min = 0 := by kernel_rfl
  have e2 : IntKind.u8.max = 255 := by kernel_rfl
  rw [e1, e2] at h
  omega
theorem u32_range {x : Int} (h : (Lit.int .u32 x).wf = true) : 0 ≤ x ∧ x ≤ 4294967295 := by
  simp [Lit.wf] at h
  have e1 : IntKind.u32.min = 0 := by kernel_rfl
  have e2 : IntKind.u32.max = 4294967295 := by kernel_rfl
  rw [e1, e2] at h
  omega
theorem i64_range {x : Int} (h : (Lit.int .i64 x).wf = true) : -9223372036854775808 ≤ x ∧ x ≤ 9223372036854775807 := by
  simp [Lit.wf] at h
  have e1 : IntKind.i64.min = -9223372036854775808 := by kernel_rfl
  rw [e1] at h
  omega
theorem u64_range {x : Int} (h : (Lit.int .u64 x).wf = true) : 0 ≤ x ∧ x ≤ 18446744073709551615 := by
  simp [Lit.wf] at h
  have e1 : IntKind.u64.min = 0 := by kernel_rfl
  have e2 : IntKind.u64.max = 18446744073709551615 := by kernel_rfl
  rw [e1, e2] at h
  omega
theorem Tryd.bytesU8 : Tryd.prog.bytesOf 5 = 1 := by kernel_rfl
/-- how a list of bytes reads. -/
def ReadsB {H : Type} (d : DataW H) (l : List Nat) : Prop := l = [] ∨ ∃ el sp, d = .slice el sp ∧ el.length = l.length
set_option maxRecDepth 100000 in
theorem bytes_open' {H : Type} {enc : TypeId × Value → H} {W : World} {fuel : Nat} {g : Value} {y : DataW H × List MemPlace} (t1 : DataW.trod enc Tryd.prog W 0 (fun _ => true) true fuel 22 [g] = some y) :
    ∃ (ao : Option Addr) (cap : Nat) (l : List Nat), g = .slice ao l.length cap ∧ HasB W (.slice ao l.length cap) l ∧ Bts l ∧ ReadsB y.1 l ∧ l.length ≤ cap ∧ (ao = none → cap = 0) := by
  rcases open_slice1 Tryd.underlying22 Tryd.cellsU8 t1 with ⟨hcs, _⟩ | ⟨a, len', cap', m, n, V, D, Pl, hcs, _, hl, hm, hmm, rfl, hx⟩
  · have e : g = .slice none 0 0 := by simpa using hcs
    subst e
    refine ⟨none, 0, [], rfl, ⟨none, 0, rfl, fun j q hj => by simp at hj⟩, ?_, Or.inl rfl, Nat.le_refl _, fun _ => rfl⟩
    intro x hx
    cases hx
  · have e : g = .slice (some a) len' cap' := by simpa using hcs
    subst e
    simp at hmm
    subst hmm
    have hq : ∀ i, i < len' → ∃ q : Nat, W.cell? (a.add i) = some (.int .u8 (q : Int)) ∧ q < 256 := fun i hi => by
      obtain ⟨h1, h2⟩ := hx i (by omega)
      obtain ⟨x0, e0, _, e9⟩ := DataW.trod_int Tryd.underlying5 h2
      simp at e0
      rw [e0] at h1
      have r := u8_range e9
      obtain ⟨q, rfl⟩ : ∃ q : Nat, x0 = q := ⟨x0.toNat, by omega⟩
      exact ⟨q, h1, by omega⟩
    obtain ⟨q, hq'⟩ := choose_lt hq
    have hlen : ((List.range len').map q).length = len' := by rw [List.length_map, List.length_range]
    refine ⟨some a, m, (List.range len').map q, by rw [hlen], ⟨some a, m, rfl, fun j r hj => ?_⟩, ?_, Or.inr ⟨_, _, rfl, by rw [List.length_map, List.length_range, hlen]⟩, by rw [hlen]; exact hl, fun h => by cases h⟩
    · have hj' : j < len' := by
        have := (List.getElem?_eq_some_iff.1 hj).1
        rw [hlen] at this
        exact this
      have er : r = q j := by
        rw [List.getElem?_map, List.getElem?_range hj'] at hj
        exact (Option.some.inj hj).symm
      subst er
      have h0 := (hq' j hj').1
      obtain ⟨b, off, spot⟩ := a
      have hspot : spot = none := by
        have h00 := (hq' 0 (by omega)).1
        simpa [Addr.add] using World.cell?_spot h00
      subst hspot
      have e1 : (Addr.mk b off none).add j = ⟨b, off + j, none⟩ := add_plain _ _ _
      rw [e1] at h0
      have hlt : b < W.heap.size := by
        rcases Nat.lt_or_ge b W.heap.size with h | h
        · exact h
        · simp [World.cell?, Array.getElem?_eq_none h] at h0
      exact ⟨b, off, rfl, hlt, h0⟩
    · intro v hv
      obtain ⟨i, hi, rfl⟩ := List.mem_map.1 hv
      exact (hq' i (List.mem_range.1 hi)).2
set_option maxRecDepth 100000 in
theorem bytes_open {H : Type} {enc : TypeId × Value → H} {W : World} {base : Nat} {v : Value} {d : DataW H} {p : List MemPlace} (hv : Value.okWide Tryd.prog W .any base 22 v) (h : DataW.Trod enc Tryd.prog W 0 (fun _ => true) true 22 v d p) :
    ∃ (ao : Option Addr) (cap : Nat) (l : List Nat), v = .slice ao l.length cap ∧ HasB W (.slice ao l.length cap) l ∧ Bts l ∧ ReadsB d l ∧ l.length ≤ cap ∧ (ao = none → cap = 0) := by
  obtain ⟨a, len, cap, rfl⟩ := okWide_slice Tryd.underlying22 hv
  obtain ⟨fuel, hf⟩ := h
  have hf' : DataW.trod enc Tryd.prog W 0 (fun _ => true) true fuel 22 [.slice a len cap] = some (d, p) := hf
  exact bytes_open' hf'
/-- a list takes no more than the form's reach. -/
theorem reach_bytes {H : Type} {ts : List TypeId} {r : List (DataW H)} (hsz : (DataW.weightsEach Tryd.prog ts r).all (· ≤ reachBytes) = true) {j : Nat} {d : DataW H} {l : List Nat} (ht : ts[j]? = some 22) (hd : r[j]? = some d) (hr : ReadsB d l) : l.length ≤ 140737488351232 := by
  rcases hr with rfl | ⟨el, sp, rfl, hl⟩
  · simp
  · have hm := List.all_eq_true.1 hsz _ (DataW.weights_mem_each (j := j) (t := 22) (d := .slice el sp) ht hd ((el.length + sp.length) * Tryd.prog.bytesOf 5) (by
      simp [DataW.weights, Tryd.underlying22]))
    have hm' : (el.length + sp.length) * Tryd.prog.bytesOf 5 ≤ reachBytes := by simpa using hm
    rw [Tryd.bytesU8] at hm'
    unfold reachBytes at hm'
    omega
theorem Tryd.cellsU32 : Tryd.prog.cellsOf 25 = 1 := by kernel_rfl
theorem Tryd.bytesU32 : Tryd.prog.bytesOf 25 = 4 := by kernel_rfl
set_option maxRecDepth 100000 in
theorem words_open' {H : Type} {enc : TypeId × Value → H} {W : World} {fuel : Nat} {g : Value} {y : DataW H × List MemPlace} (t1 : DataW.trod enc Tryd.prog W 0 (fun _ => true) true fuel 30 [g] = some y) :
    ∃ (ao : Option Addr) (cap : Nat) (l : List Nat), g = .slice ao l.length cap ∧ HasW W (.slice ao l.length cap) l ∧ (∀ x ∈ l, x < 4294967296) ∧ ReadsB y.1 l ∧ l.length ≤ cap ∧ (ao = none → cap = 0) := by
  rcases open_slice1 Tryd.underlying30 Tryd.cellsU32 t1 with ⟨hcs, _⟩ | ⟨a, len', cap', m, n, V, D, Pl, hcs, _, hl, hm, hmm, rfl, hx⟩
  · have e : g = .slice none 0 0 := by simpa using hcs
    subst e
    refine ⟨none, 0, [], rfl, ⟨none, 0, rfl, fun j q hj => by simp at hj⟩, ?_, Or.inl rfl, Nat.le_refl _, fun _ => rfl⟩
    intro x hx
    cases hx
  · have e : g = .slice (some a) len' cap' := by simpa using hcs
    subst e
    simp at hmm
    subst hmm
    have hq : ∀ i, i < len' → ∃ q : Nat, W.cell? (a.add i) = some (.int .u32 (q : Int)) ∧ q < 4294967296 := fun i hi => by
      obtain ⟨h1, h2⟩ := hx i (by omega)
      obtain ⟨x0, e0, _, e9⟩ := DataW.trod_int Tryd.underlying25 h2
      simp at e0
      rw [e0] at h1
      have r := u32_range e9
      obtain ⟨q, rfl⟩ : ∃ q : Nat, x0 = q := ⟨x0.toNat, by omega⟩
      exact ⟨q, h1, by omega⟩
    obtain ⟨q, hq'⟩ := choose_lt hq
    have hlen : ((List.range len').map q).length = len' := by rw [List.length_map, List.length_range]
    refine ⟨some a, m, (List.range len').map q, by rw [hlen], ⟨some a, m, rfl, fun j r hj => ?_⟩, ?_, Or.inr ⟨_, _, rfl, by rw [List.length_map, List.length_range, hlen]⟩, by rw [hlen]; exact hl, fun h => by cases h⟩
    · have hj' : j < len' := by
        have := (List.getElem?_eq_some_iff.1 hj).1
        rw [hlen] at this
        exact this
      have er : r = q j := by
        rw [List.getElem?_map, List.getElem?_range hj'] at hj
        exact (Option.some.inj hj).symm
      subst er
      have h0 := (hq' j hj').1
      obtain ⟨b, off, spot⟩ := a
      have hspot : spot = none := by
        have h00 := (hq' 0 (by omega)).1
        simpa [Addr.add] using World.cell?_spot h00
      subst hspot
      have e1 : (Addr.mk b off none).add j = ⟨b, off + j, none⟩ := add_plain _ _ _
      rw [e1] at h0
      have hlt : b < W.heap.size := by
        rcases Nat.lt_or_ge b W.heap.size with h | h
        · exact h
        · simp [World.cell?, Array.getElem?_eq_none h] at h0
      exact ⟨b, off, rfl, hlt, h0⟩
    · intro v hv
      obtain ⟨i, hi, rfl⟩ := List.mem_map.1 hv
      exact (hq' i (List.mem_range.1 hi)).2
set_option maxRecDepth 100000 in
theorem words_open {H : Type} {enc : TypeId × Value → H} {W : World} {base : Nat} {v : Value} {d : DataW H} {p : List MemPlace} (hv : Value.okWide Tryd.prog W .any base 30 v) (h : DataW.Trod enc Tryd.prog W 0 (fun _ => true) true 30 v d p) :
    ∃ (ao : Option Addr) (cap : Nat) (l : List Nat), v = .slice ao l.length cap ∧ HasW W (.slice ao l.length cap) l ∧ (∀ x ∈ l, x < 4294967296) ∧ ReadsB d l ∧ l.length ≤ cap ∧ (ao = none → cap = 0) := by
  obtain ⟨a, len, cap, rfl⟩ := okWide_slice Tryd.underlying30 hv
  obtain ⟨fuel, hf⟩ := h
  have hf' : DataW.trod enc Tryd.prog W 0 (fun _ => true) true fuel 30 [.slice a len cap] = some (d, p) := hf
  exact words_open' hf'
/-- a list takes no more than the form's reach. -/
theorem reach_words {H : Type} {ts : List TypeId} {r : List (DataW H)} (hsz : (DataW.weightsEach Tryd.prog ts r).all (· ≤ reachBytes) = true) {j : Nat} {d : DataW H} {l : List Nat} (ht : ts[j]? = some 30) (hd : r[j]? = some d) (hr : ReadsB d l) : l.length * 4 ≤ 140737488351232 := by
  rcases hr with rfl | ⟨el, sp, rfl, hl⟩
  · simp
  · have hm := List.all_eq_true.1 hsz _ (DataW.weights_mem_each (j := j) (t := 30) (d := .slice el sp) ht hd ((el.length + sp.length) * Tryd.prog.bytesOf 25) (by
      simp [DataW.weights, Tryd.underlying30]))
    have hm' : (el.length + sp.length) * Tryd.prog.bytesOf 25 ≤ reachBytes := by simpa using hm
    rw [Tryd.bytesU32] at hm'
    unfold reachBytes at hm'
    omega
end Go.Proofs.YtemdocnhdnhliabDoor
