/- The frame of a law's proof over this translation: what the listed table gives a walk; a world that meets the list; that arguments read as they did where nothing old has turned; bytes among the arguments, opened. -/
import Derived.Test.YtjjfnioplddppaaDoorRows
import Derived.Test.YtjjfnioplddppaaDoorCrC
import Derived.ChangeSame
import Derived.ChangeVars
import Derived.JoinedOf
import Derived.RowKit
import Derived.RowKitTokens
import Derived.LaidLaws
import Derived.LaidHandle
import Derived.Stop.Joined
import Derived.Carry
import Derived.Lay
import Derived.MakeChecks
import Derived.Deep.Slices
import Derived.Deep.Strs
import Derived.SizedLaws
namespace Go.Proofs.YtjjfnioplddppaaDoor
open Go.ChangeShapes Go.WideShapes Go.RowKit Go.Deep Cr

theorem Tryd.own : ownKnob Tryd.prog.godebug = none := by kernel_rfl
theorem Tryd.laidOut : laidOutB Tryd.prog = true := by kernel_rfl
theorem Tryd.fours : Tryd.prog.globalNamed "viaduct/crc.fours" = some 0 := by kernel_rfl
theorem Tryd.foursType : (Tryd.prog.globals[0]?).map (·.type) = some 33 := by kernel_rfl
theorem Tryd.cellsA : Tryd.prog.cellsOf 33 = 16 := by kernel_rfl
theorem Tryd.cellsW : Tryd.prog.cellsOf 23 = 1 := by kernel_rfl
theorem Tryd.cellsU8 : Tryd.prog.cellsOf 5 = 1 := by kernel_rfl
/-- the listed variables, as every row of this seat lists them. -/
def laidAll : List (String × DataW Unit) := [("viaduct/crc.fours", Rows.laid_viaduct_crc_fours)]
theorem int_of_trod {H : Type} {enc : TypeId × Value → H} {P : Program} {w : World} {base : Nat} {sp : Nat → Bool} {held : Bool} {fuel : Nat} {t : TypeId} {k : IntKind} {c : Value} {y : DataW H × List MemPlace}
    (ht : P.underlying t = some (.int k)) (h : DataW.trod enc P w base sp held fuel t [c] = some y) : ∃ n, c = .int k n ∧ y = (.lit (.int k n), []) := by
  cases fuel with
  | zero => simp [DataW.trod] at h
  | succ fuel =>
    cases c <;> simp [DataW.trod, ht] at h
    rename_i k' n
    obtain ⟨⟨rfl, _⟩, rfl⟩ := h
    exact ⟨n, rfl, rfl⟩
def cells16 : Array Value := #[.int .u32 0, .int .u32 498536548, .int .u32 997073096, .int .u32 651767980, .int .u32 1994146192, .int .u32 1802195444, .int .u32 1303535960, .int .u32 1342533948, .int .u32 3988292384, .int .u32 4027552580, .int .u32 3604390888, .int .u32 3412177804, .int .u32 2607071920, .int .u32 2262029012, .int .u32 2685067896, .int .u32 3183342108]
set_option maxRecDepth 100000 in
set_option maxHeartbeats 2000000 in
theorem cells_of_laid {W : World} (h : laidMet Tryd.prog laidAll W) : W.var? Tryd.prog "viaduct/crc.fours" = some cells16 := by
  obtain ⟨ps, ⟨g, t, cs, fuel, p, q, hg, ht, hvar, hd, _, _⟩, _⟩ := h
  obtain rfl := Option.some.inj (Tryd.fours.symm.trans hg)
  obtain rfl := Option.some.inj (Tryd.foursType.symm.trans ht)
  rw [hvar]
  congr 1
  obtain ⟨l⟩ := cs
  cases fuel with
  | zero => simp [DataW.trod] at hd
  | succ fuel =>
    simp only [DataW.trod, Tryd.underlying33, Tryd.cellsA, Tryd.cellsW] at hd
    split at hd
    · rename_i hl
      obtain ⟨c0, c1, c2, c3, c4, c5, c6, c7, c8, c9, c10, c11, c12, c13, c14, c15, rfl⟩ : ∃ c0 c1 c2 c3 c4 c5 c6 c7 c8 c9 c10 c11 c12 c13 c14 c15, l = [c0, c1, c2, c3, c4, c5, c6, c7, c8, c9, c10, c11, c12, c13, c14, c15] := by
        match l, hl with
        | [c0, c1, c2, c3, c4, c5, c6, c7, c8, c9, c10, c11, c12, c13, c14, c15], _ => exact ⟨c0, c1, c2, c3, c4, c5, c6, c7, c8, c9, c10, c11, c12, c13, c14, c15, rfl⟩
      have e : List.range 16 = [0, 1, 2, 3, 4, 5, 6, 7, 8, 9, 10, 11, 12, 13, 14, 15] := rfl
      rw [e] at hd
      simp only [Option.map_eq_some_iff, List.mapM_cons, List.mapM_nil, Option.bind_eq_bind, Option.bind_eq_some_iff, Option.pure_def, Option.some.injEq] at hd
      obtain ⟨xs, ⟨y0, h0, _, ⟨y1, h1, _, ⟨y2, h2, _, ⟨y3, h3, _, ⟨y4, h4, _, ⟨y5, h5, _, ⟨y6, h6, _, ⟨y7, h7, _, ⟨y8, h8, _, ⟨y9, h9, _, ⟨y10, h10, _, ⟨y11, h11, _, ⟨y12, h12, _, ⟨y13, h13, _, ⟨y14, h14, _, ⟨y15, h15, _, rfl, rfl⟩, rfl⟩, rfl⟩, rfl⟩, rfl⟩, rfl⟩, rfl⟩, rfl⟩, rfl⟩, rfl⟩, rfl⟩, rfl⟩, rfl⟩, rfl⟩, rfl⟩, rfl⟩, hx⟩ := hd
      obtain ⟨n0, rfl, rfl⟩ := int_of_trod Tryd.underlying23 h0
      obtain ⟨n1, rfl, rfl⟩ := int_of_trod Tryd.underlying23 h1
      obtain ⟨n2, rfl, rfl⟩ := int_of_trod Tryd.underlying23 h2
      obtain ⟨n3, rfl, rfl⟩ := int_of_trod Tryd.underlying23 h3
      obtain ⟨n4, rfl, rfl⟩ := int_of_trod Tryd.underlying23 h4
      obtain ⟨n5, rfl, rfl⟩ := int_of_trod Tryd.underlying23 h5
      obtain ⟨n6, rfl, rfl⟩ := int_of_trod Tryd.underlying23 h6
      obtain ⟨n7, rfl, rfl⟩ := int_of_trod Tryd.underlying23 h7
      obtain ⟨n8, rfl, rfl⟩ := int_of_trod Tryd.underlying23 h8
      obtain ⟨n9, rfl, rfl⟩ := int_of_trod Tryd.underlying23 h9
      obtain ⟨n10, rfl, rfl⟩ := int_of_trod Tryd.underlying23 h10
      obtain ⟨n11, rfl, rfl⟩ := int_of_trod Tryd.underlying23 h11
      obtain ⟨n12, rfl, rfl⟩ := int_of_trod Tryd.underlying23 h12
      obtain ⟨n13, rfl, rfl⟩ := int_of_trod Tryd.underlying23 h13
      obtain ⟨n14, rfl, rfl⟩ := int_of_trod Tryd.underlying23 h14
      obtain ⟨n15, rfl, rfl⟩ := int_of_trod Tryd.underlying23 h15
      simp [Rows.laid_viaduct_crc_fours] at hx
      obtain ⟨⟨rfl, rfl, rfl, rfl, rfl, rfl, rfl, rfl, rfl, rfl, rfl, rfl, rfl, rfl, rfl, rfl⟩, _⟩ := hx
      rfl
    · cases hd
theorem fours_of_laid {W : World} (h : laidMetH Tryd.prog laidAll W) : HasFours W ∧ 0 < W.heap.size := by
  rw [MakeChecks.laidMetH_plain _ _ _ (by kernel_rfl)] at h
  have hv := cells_of_laid h
  have hc : ∀ i, W.cell? ⟨0, i, none⟩ = cells16[i]? := fun i => World.var?_cell Tryd.fours hv i
  refine ⟨fun i hi => ?_, ?_⟩
  · rw [hc i]
    match i, hi with
    | 0, _ => rfl
    | 1, _ => rfl
    | 2, _ => rfl
    | 3, _ => rfl
    | 4, _ => rfl
    | 5, _ => rfl
    | 6, _ => rfl
    | 7, _ => rfl
    | 8, _ => rfl
    | 9, _ => rfl
    | 10, _ => rfl
    | 11, _ => rfl
    | 12, _ => rfl
    | 13, _ => rfl
    | 14, _ => rfl
    | 15, _ => rfl
    | n + 16, h => omega
  · have h0 := hc 0
    rcases Nat.lt_or_ge 0 W.heap.size with h' | h'
    · exact h'
    · simp [World.cell?, Array.getElem?_eq_none h', cells16] at h0
theorem trodAll_stays {H : Type} {enc : TypeId × Value → H} {W W' : World} (hb : Below W.heap.size W W') : ∀ {ts : List TypeId} {vs : List Value} {ds : List (DataW H)} {ps : List MemPlace},
    (∀ t ∈ ts, Tryd.prog.readableRec t = true ∧ t < Tryd.prog.types.size) → DataW.TrodAll enc Tryd.prog W 0 (fun _ => true) true ts vs ds ps → DataW.TrodAll enc Tryd.prog W' 0 (fun b => decide (b < W.heap.size)) true ts vs ds ps
  | [], vs, ds, ps, _, h => by
    obtain ⟨rfl, rfl, rfl⟩ := trodAll_nil h
    exact trodAll_mk0
  | t :: ts, vs, ds, ps, hr, h => by
    have hlt := h.lt
    obtain ⟨v, vs', d, ds', p, q, rfl, rfl, rfl, h0, h1⟩ := trodAll_cons h
    exact ⟨p, q, Below.trod Tryd.laidOut (hr t (by simp)).1 (hr t (by simp)).2 h0 hb (fun x hx => hlt x (by simp [hx])), trodAll_stays hb (fun t' ht' => hr t' (by simp [ht'])) h1, rfl⟩
/-- A LAW's CALL, FROM ITS WALK: true, nothing old turned: the row's own word. -/
theorem post_of_law {H : Type} {enc : TypeId × Value → H} {s : ChangeSpec} {fn : Func} {W W' : World} {args : Array Value} {ds gs : List (DataW H)} {before : List MemPlace}
    (hW : DataW.Whole enc Tryd.prog fn.params.toList s.vars false W args.toList ds gs before) (hv : s.vars = []) (hres : fn.resultTypes = #[4])
    (hfn : s.fn H (ds ++ gs) = { results := [.lit (.bool true)], args := ds }) (hr : ∀ t ∈ fn.params.toList, Tryd.prog.readableRec t = true ∧ t < Tryd.prog.types.size) (hb : Below W.heap.size W W') :
    s.post enc Tryd.prog fn false true false false W args (.bool true) W' := by
  have hW' := hW
  obtain ⟨p, q, hA, hV, rfl, _, _⟩ := hW
  refine ⟨ds, gs, _, [], p, [], hW', ?_, ?_, ?_, hb.frame _, fun h => by cases h⟩
  · rw [hfn, hres]; exact trodAll_mk1 (shut_bool Tryd.underlying4 true)
  · rw [hfn]; exact trodAll_stays hb hr hA
  · rw [hfn, hv]; rfl
theorem add_plain (b o i : Nat) : (Addr.mk b o none).add i = ⟨b, o + i, none⟩ := by unfold Addr.add; split <;> simp_all
theorem choose_lt {α : Type} [Inhabited α] {n : Nat} {p : Nat → α → Prop} (h : ∀ i, i < n → ∃ x, p i x) : ∃ q : Nat → α, ∀ i, i < n → p i (q i) := by
  refine ⟨fun i => if hi : i < n then Classical.choose (h i hi) else default, fun i hi => ?_⟩
  simp only [dif_pos hi]
  exact Classical.choose_spec (h i hi)
theorem u8_range {x : Int} (h : (Lit.int .u8 x).wf = true) : 0 ≤ x ∧ x ≤ 255 := by
  simp [Lit.wf] at h
  have e1 : IntKind.u8.min = 0 := by kernel_rfl
  have e2 : IntKind.u8.max = 255 := by kernel_rfl
  rw [e1, e2] at h
  omega
theorem i64_range {x : Int} (h : (Lit.int .i64 x).wf = true) : -9223372036854775808 ≤ x ∧ x ≤ 9223372036854775807 := by
  simp [Lit.wf] at h
  have e1 : IntKind.i64.min = -9223372036854775808 := by kernel_rfl
  rw [e1] at h
  omega
theorem u32_range {x : Int} (h : (Lit.int .u32 x).wf = true) : 0 ≤ x ∧ x ≤ 4294967295 := by
  simp [Lit.wf] at h
  have e1 : IntKind.u32.min = 0 := by kernel_rfl
  have e2 : IntKind.u32.max = 4294967295 := by kernel_rfl
  rw [e1, e2] at h
  omega
theorem Tryd.bytesU8 : Tryd.prog.bytesOf 5 = 1 := by kernel_rfl
/-- how a list of bytes reads. -/
def ReadsB {H : Type} (d : DataW H) (l : List Nat) : Prop := l = [] ∨ ∃ el sp, d = .slice el sp ∧ el.length = l.length
set_option maxRecDepth 100000 in
theorem bytes_open' {H : Type} {enc : TypeId × Value → H} {W : World} {fuel : Nat} {g : Value} {y : DataW H × List MemPlace} (t1 : DataW.trod enc Tryd.prog W 0 (fun _ => true) true fuel 25 [g] = some y) :
    ∃ (ao : Option Addr) (cap : Nat) (l : List Nat), g = .slice ao l.length cap ∧ HasB W (.slice ao l.length cap) l ∧ Bts l ∧ ReadsB y.1 l ∧ l.length ≤ cap ∧ (ao = none → cap = 0) := by
  rcases open_slice1 Tryd.underlying25 Tryd.cellsU8 t1 with ⟨hcs, _⟩ | ⟨a, len', cap', m, n, V, D, Pl, hcs, _, hl, hm, hmm, rfl, hx⟩
  · have e : g = .slice none 0 0 := by simpa using hcs
    subst e
    refine ⟨none, 0, [], rfl, ⟨none, 0, rfl, fun j q hj => by simp at hj⟩, ?_, Or.inl rfl, Nat.le_refl _, fun _ => rfl⟩
    intro x hx
    cases hx
  · have e : g = .slice (some a) len' cap' := by simpa using hcs
    subst e
    simp at hmm
    subst hmm
    have hq : ∀ i, i < len' → ∃ q : Nat, W.cell? (a.add i) = some (.int .u8 (q : Int)) ∧ q < 256 := fun i hi => by
      obtain ⟨h1, h2⟩ := hx i (by omega)
      obtain ⟨x0, e0, _, e9⟩ := DataW.trod_int Tryd.underlying5 h2
      simp at e0
      rw [e0] at h1
      have r := u8_range e9
      obtain ⟨q, rfl⟩ : ∃ q : Nat, x0 = q := ⟨x0.toNat, by omega⟩
      exact ⟨q, h1, by omega⟩
    obtain ⟨q, hq'⟩ := choose_lt hq
    have hlen : ((List.range len').map q).length = len' := by rw [List.length_map, List.length_range]
    refine ⟨some a, m, (List.range len').map q, by rw [hlen], ⟨some a, m, rfl, fun j r hj => ?_⟩, ?_, Or.inr ⟨_, _, rfl, by rw [List.length_map, List.length_range, hlen]⟩, by rw [hlen]; exact hl, fun h => by cases h⟩
    · have hj' : j < len' := by
        have := (List.getElem?_eq_some_iff.1 hj).1
        rw [hlen] at this
        exact this
      have er : r = q j := by
        rw [List.getElem?_map, List.getElem?_range hj'] at hj
        exact (Option.some.inj hj).symm
      subst er
      have h0 := (hq' j hj').1
      obtain ⟨b, off, spot⟩ := a
      have hspot : spot = none := by
        have h00 := (hq' 0 (by omega)).1
        simpa [Addr.add] using World.cell?_spot h00
      subst hspot
      have e1 : (Addr.mk b off none).add j = ⟨b, off + j, none⟩ := add_plain _ _ _
      rw [e1] at h0
      have hlt : b < W.heap.size := by
        rcases Nat.lt_or_ge b W.heap.size with h | h
        · exact h
        · simp [World.cell?, Array.getElem?_eq_none h] at h0
      exact ⟨b, off, rfl, hlt, h0⟩
    · intro v hv
      obtain ⟨i, hi, rfl⟩ := List.mem_map.1 hv
      exact (hq' i (List.mem_range.1 hi)).2
set_option maxRecDepth 100000 in
theorem bytes_open {H : Type} {enc : TypeId × Value → H} {W : World} {base : Nat} {v : Value} {d : DataW H} {p : List MemPlace} (hv : Value.okWide Tryd.prog W .any base 25 v) (h : DataW.Trod enc Tryd.prog W 0 (fun _ => true) true 25 v d p) :
    ∃ (ao : Option Addr) (cap : Nat) (l : List Nat), v = .slice ao l.length cap ∧ HasB W (.slice ao l.length cap) l ∧ Bts l ∧ ReadsB d l ∧ l.length ≤ cap ∧ (ao = none → cap = 0) := by
  obtain ⟨a, len, cap, rfl⟩ := okWide_slice Tryd.underlying25 hv
  obtain ⟨fuel, hf⟩ := h
  have hf' : DataW.trod enc Tryd.prog W 0 (fun _ => true) true fuel 25 [.slice a len cap] = some (d, p) := hf
  exact bytes_open' hf'
/-- a list takes no more than the form's reach. -/
theorem reach_bytes {H : Type} {ts : List TypeId} {r : List (DataW H)} (hsz : (DataW.weightsEach Tryd.prog ts r).all (· ≤ reachBytes) = true) {j : Nat} {d : DataW H} {l : List Nat} (ht : ts[j]? = some 25) (hd : r[j]? = some d) (hr : ReadsB d l) : l.length ≤ 140737488351232 := by
  rcases hr with rfl | ⟨el, sp, rfl, hl⟩
  · simp
  · have hm := List.all_eq_true.1 hsz _ (DataW.weights_mem_each (j := j) (t := 25) (d := .slice el sp) ht hd ((el.length + sp.length) * Tryd.prog.bytesOf 5) (by
      simp [DataW.weights, Tryd.underlying25]))
    have hm' : (el.length + sp.length) * Tryd.prog.bytesOf 5 ≤ reachBytes := by simpa using hm
    rw [Tryd.bytesU8] at hm'
    unfold reachBytes at hm'
    omega
theorem laidAll_met (os : Os) (args : Array Value) : laidMetH Tryd.prog laidAll ((World.laidAll Tryd.prog os laidAll).forCall (fun _ _ => 0) ⟨#[], args, []⟩).memory := by
  rw [MakeChecks.laidMetH_plain _ _ _ (by kernel_rfl)]
  exact laidMet_laidAll _ (by kernel_rfl) (by kernel_rfl)
end Go.Proofs.YtjjfnioplddppaaDoor
