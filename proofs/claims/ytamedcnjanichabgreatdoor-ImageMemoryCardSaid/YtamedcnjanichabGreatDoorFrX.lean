/- The frame of a law's proof over this translation: what the two listed variables give a walk; a world that meets the list; that arguments read as they did where nothing old has turned; and the row of a law out of its walk. A hierarchy among the arguments, opened: its five lists lie in memory. bytes and ints among the arguments, opened; a hierarchy's empty lists have no room. -/
import Derived.Test.YtamedcnjanichabGreatDoorRows
import Derived.Test.YtamedcnjanichabGreatDoorSeen
import Derived.Test.YtamedcnjanichabGreatDoorCrX
import Derived.ChangeSame
import Derived.ChangeVars
import Derived.JoinedOf
import Derived.RowKit
import Derived.RowKitTokens
import Derived.LaidLaws
import Derived.LaidHandle
import Derived.Stop.Joined
import Derived.Carry
import Derived.Lay
import Derived.MakeChecks
import Derived.Deep.Slices
import Derived.Deep.Strs
import Derived.SizedLaws
import Derived.Test.YtamedcnjanichabGreatDoorHrG
import Derived.Lib.SmallJoins
import Derived.Test.YtamedcnjanichabGreatDoorIiX
namespace Go.Proofs.YtamedcnjanichabGreatDoor
open Go.ChangeShapes Go.WideShapes Go.RowKit Go.Deep Cr

theorem Tryz.own : ownKnob Tryz.prog.godebug = none := by kernel_rfl
theorem Tryz.laidOut : laidOutB Tryz.prog = true := by kernel_rfl
theorem Tryz.et : Tryz.prog.globalNamed "errors.errorType" = some 0 := by kernel_rfl
theorem Tryz.rt : (Tryz.prog.cutTypes.find? (·.1 == "internal/reflectlite.rtype")).map (·.2) = some 144 := by kernel_rfl
theorem Tryz.oneRow : ((List.range Tryz.prog.types.size).filter fun t => Tryz.prog.rowNamed t [101, 114, 114, 111, 114]) = [30] := by kernel_rfl
theorem Tryz.fours : Tryz.prog.globalNamed "viaduct/crc.fours" = some 1 := by kernel_rfl
theorem Tryz.foursType : (Tryz.prog.globals[1]?).map (·.type) = some 166 := by kernel_rfl
theorem Tryz.cellsA : Tryz.prog.cellsOf 166 = 16 := by kernel_rfl
theorem Tryz.cellsW : Tryz.prog.cellsOf 39 = 1 := by kernel_rfl
theorem Tryz.cellsU8 : Tryz.prog.cellsOf 5 = 1 := by kernel_rfl
/-- the listed variables, as every row of this seat lists them. -/
def laidAll : List (String × DataW Unit) := [("viaduct/crc.fours", Rows.laid_viaduct_crc_fours), ("errors.errorType", Rows.laid_errors_errorType)]

theorem hasType_of_laid {W : World} (h : laidMetH Tryz.prog laidAll W) : HasType W := by
  have h' : laidMet Tryz.prog [("viaduct/crc.fours", Rows.laid_viaduct_crc_fours)] W ∧ handlesMet Tryz.prog [("errors.errorType", Rows.laid_errors_errorType)] W := h
  obtain ⟨name, u, ty, e1, e2, e3, e4, e5⟩ := h'.2 _ (List.mem_singleton.2 rfl)
  have en : name = [101, 114, 114, 111, 114] := (Option.some.inj e1).symm
  subst en
  obtain rfl := Option.some.inj (Tryz.rt.symm.trans e2)
  have hm : ty ∈ (List.range Tryz.prog.types.size).filter fun t => Tryz.prog.rowNamed t [101, 114, 114, 111, 114] := List.mem_filter.2 ⟨List.mem_range.2 e3, e4⟩
  rw [Tryz.oneRow] at hm
  obtain rfl := List.mem_singleton.1 hm
  have hh : typeHandle Tryz.prog 30 = .pointer (some ⟨2, 30, none⟩) := by kernel_rfl
  rw [hh] at e5
  exact (by simpa using World.var?_cell Tryz.et e5 0 : W.cell? ⟨0, 0, none⟩ = _)
theorem int_of_trod {H : Type} {enc : TypeId × Value → H} {P : Program} {w : World} {base : Nat} {sp : Nat → Bool} {held : Bool} {fuel : Nat} {t : TypeId} {k : IntKind} {c : Value} {y : DataW H × List MemPlace}
    (ht : P.underlying t = some (.int k)) (h : DataW.trod enc P w base sp held fuel t [c] = some y) : ∃ n, c = .int k n ∧ y = (.lit (.int k n), []) := by
  cases fuel with
  | zero => simp [DataW.trod] at h
  | succ fuel =>
    cases c <;> simp [DataW.trod, ht] at h
    rename_i k' n
    obtain ⟨⟨rfl, _⟩, rfl⟩ := h
    exact ⟨n, rfl, rfl⟩
def cells16 : Array Value := #[.int .u32 0, .int .u32 498536548, .int .u32 997073096, .int .u32 651767980, .int .u32 1994146192, .int .u32 1802195444, .int .u32 1303535960, .int .u32 1342533948, .int .u32 3988292384, .int .u32 4027552580, .int .u32 3604390888, .int .u32 3412177804, .int .u32 2607071920, .int .u32 2262029012, .int .u32 2685067896, .int .u32 3183342108]
set_option maxRecDepth 100000 in
set_option maxHeartbeats 2000000 in
theorem cells_of_laid {W : World} (h : laidMet Tryz.prog [("viaduct/crc.fours", Rows.laid_viaduct_crc_fours)] W) : W.var? Tryz.prog "viaduct/crc.fours" = some cells16 := by
  obtain ⟨ps, ⟨g, t, cs, fuel, p, q, hg, ht, hvar, hd, _, _⟩, _⟩ := h
  obtain rfl := Option.some.inj (Tryz.fours.symm.trans hg)
  obtain rfl := Option.some.inj (Tryz.foursType.symm.trans ht)
  rw [hvar]
  congr 1
  obtain ⟨l⟩ := cs
  cases fuel with
  | zero => simp [DataW.trod] at hd
  | succ fuel =>
    simp only [DataW.trod, Tryz.underlying166, Tryz.cellsA, Tryz.cellsW] at hd
    split at hd
    · rename_i hl
      obtain ⟨c0, c1, c2, c3, c4, c5, c6, c7, c8, c9, c10, c11, c12, c13, c14, c15, rfl⟩ : ∃ c0 c1 c2 c3 c4 c5 c6 c7 c8 c9 c10 c11 c12 c13 c14 c15, l = [c0, c1, c2, c3, c4, c5, c6, c7, c8, c9, c10, c11, c12, c13, c14, c15] := by
        match l, hl with
        | [c0, c1, c2, c3, c4, c5, c6, c7, c8, c9, c10, c11, c12, c13, c14, c15], _ => exact ⟨c0, c1, c2, c3, c4, c5, c6, c7, c8, c9, c10, c11, c12, c13, c14, c15, rfl⟩
      have e : List.range 16 = [0, 1, 2, 3, 4, 5, 6, 7, 8, 9, 10, 11, 12, 13, 14, 15] := rfl
      rw [e] at hd
      simp only [Option.map_eq_some_iff, List.mapM_cons, List.mapM_nil, Option.bind_eq_bind, Option.bind_eq_some_iff, Option.pure_def, Option.some.injEq] at hd
      obtain ⟨xs, ⟨y0, h0, _, ⟨y1, h1, _, ⟨y2, h2, _, ⟨y3, h3, _, ⟨y4, h4, _, ⟨y5, h5, _, ⟨y6, h6, _, ⟨y7, h7, _, ⟨y8, h8, _, ⟨y9, h9, _, ⟨y10, h10, _, ⟨y11, h11, _, ⟨y12, h12, _, ⟨y13, h13, _, ⟨y14, h14, _, ⟨y15, h15, _, rfl, rfl⟩, rfl⟩, rfl⟩, rfl⟩, rfl⟩, rfl⟩, rfl⟩, rfl⟩, rfl⟩, rfl⟩, rfl⟩, rfl⟩, rfl⟩, rfl⟩, rfl⟩, rfl⟩, hx⟩ := hd
      obtain ⟨n0, rfl, rfl⟩ := int_of_trod Tryz.underlying39 h0
      obtain ⟨n1, rfl, rfl⟩ := int_of_trod Tryz.underlying39 h1
      obtain ⟨n2, rfl, rfl⟩ := int_of_trod Tryz.underlying39 h2
      obtain ⟨n3, rfl, rfl⟩ := int_of_trod Tryz.underlying39 h3
      obtain ⟨n4, rfl, rfl⟩ := int_of_trod Tryz.underlying39 h4
      obtain ⟨n5, rfl, rfl⟩ := int_of_trod Tryz.underlying39 h5
      obtain ⟨n6, rfl, rfl⟩ := int_of_trod Tryz.underlying39 h6
      obtain ⟨n7, rfl, rfl⟩ := int_of_trod Tryz.underlying39 h7
      obtain ⟨n8, rfl, rfl⟩ := int_of_trod Tryz.underlying39 h8
      obtain ⟨n9, rfl, rfl⟩ := int_of_trod Tryz.underlying39 h9
      obtain ⟨n10, rfl, rfl⟩ := int_of_trod Tryz.underlying39 h10
      obtain ⟨n11, rfl, rfl⟩ := int_of_trod Tryz.underlying39 h11
      obtain ⟨n12, rfl, rfl⟩ := int_of_trod Tryz.underlying39 h12
      obtain ⟨n13, rfl, rfl⟩ := int_of_trod Tryz.underlying39 h13
      obtain ⟨n14, rfl, rfl⟩ := int_of_trod Tryz.underlying39 h14
      obtain ⟨n15, rfl, rfl⟩ := int_of_trod Tryz.underlying39 h15
      simp [Rows.laid_viaduct_crc_fours] at hx
      obtain ⟨⟨rfl, rfl, rfl, rfl, rfl, rfl, rfl, rfl, rfl, rfl, rfl, rfl, rfl, rfl, rfl, rfl⟩, _⟩ := hx
      rfl
    · cases hd
theorem fours_of_laid {W : World} (h : laidMetH Tryz.prog laidAll W) : HasFours W ∧ 1 < W.heap.size := by
  have h' : laidMet Tryz.prog [("viaduct/crc.fours", Rows.laid_viaduct_crc_fours)] W ∧ handlesMet Tryz.prog [("errors.errorType", Rows.laid_errors_errorType)] W := h
  have hv := cells_of_laid h'.1
  have hc : ∀ i, W.cell? ⟨1, i, none⟩ = cells16[i]? := fun i => World.var?_cell Tryz.fours hv i
  refine ⟨fun i hi => ?_, ?_⟩
  · rw [hc i]
    match i, hi with
    | 0, _ => rfl
    | 1, _ => rfl
    | 2, _ => rfl
    | 3, _ => rfl
    | 4, _ => rfl
    | 5, _ => rfl
    | 6, _ => rfl
    | 7, _ => rfl
    | 8, _ => rfl
    | 9, _ => rfl
    | 10, _ => rfl
    | 11, _ => rfl
    | 12, _ => rfl
    | 13, _ => rfl
    | 14, _ => rfl
    | 15, _ => rfl
    | n + 16, h => omega
  · have h0 := hc 0
    rcases Nat.lt_or_ge 1 W.heap.size with h' | h'
    · exact h'
    · simp [World.cell?, Array.getElem?_eq_none h', cells16] at h0
theorem trodAll_stays {H : Type} {enc : TypeId × Value → H} {W W' : World} (hb : Below W.heap.size W W') : ∀ {ts : List TypeId} {vs : List Value} {ds : List (DataW H)} {ps : List MemPlace},
    (∀ t ∈ ts, Tryz.prog.readableRec t = true ∧ t < Tryz.prog.types.size) → DataW.TrodAll enc Tryz.prog W 0 (fun _ => true) true ts vs ds ps → DataW.TrodAll enc Tryz.prog W' 0 (fun b => decide (b < W.heap.size)) true ts vs ds ps
  | [], vs, ds, ps, _, h => by
    obtain ⟨rfl, rfl, rfl⟩ := trodAll_nil h
    exact trodAll_mk0
  | t :: ts, vs, ds, ps, hr, h => by
    have hlt := h.lt
    obtain ⟨v, vs', d, ds', p, q, rfl, rfl, rfl, h0, h1⟩ := trodAll_cons h
    exact ⟨p, q, Below.trod Tryz.laidOut (hr t (by simp)).1 (hr t (by simp)).2 h0 hb (fun x hx => hlt x (by simp [hx])), trodAll_stays hb (fun t' ht' => hr t' (by simp [ht'])) h1, rfl⟩

/-- A LAW's CALL, FROM ITS WALK: true, nothing old turned: the row's own word. -/
theorem post_of_law {H : Type} {enc : TypeId × Value → H} {s : ChangeSpec} {fn : Func} {W W' : World} {args : Array Value} {ds gs : List (DataW H)} {before : List MemPlace}
    (hW : DataW.Whole enc Tryz.prog fn.params.toList s.vars false W args.toList ds gs before) (hv : s.vars = []) (hres : fn.resultTypes = #[4])
    (hfn : s.fn H (ds ++ gs) = { results := [.lit (.bool true)], args := ds }) (hr : ∀ t ∈ fn.params.toList, Tryz.prog.readableRec t = true ∧ t < Tryz.prog.types.size) (hb : Below W.heap.size W W') :
    s.post enc Tryz.prog fn false true false false W args (.bool true) W' := by
  have hW' := hW
  obtain ⟨p, q, hA, hV, rfl, _, _⟩ := hW
  refine ⟨ds, gs, _, [], p, [], hW', ?_, ?_, ?_, hb.frame _, fun h => by cases h⟩
  · rw [hfn, hres]; exact trodAll_mk1 (shut_bool Tryz.underlying4 true)
  · rw [hfn]; exact trodAll_stays hb hr hA
  · rw [hfn, hv]; rfl

/-- the cells of a block, laid. -/
def laidCells (cs : Array Value) : Obj → Obj
  | .cells _ t frozen => .cells cs t frozen
  | o => o
theorem add_plain (b o i : Nat) : (Addr.mk b o none).add i = ⟨b, o + i, none⟩ := by unfold Addr.add; split <;> simp_all
theorem choose_lt {α : Type} [Inhabited α] {n : Nat} {p : Nat → α → Prop} (h : ∀ i, i < n → ∃ x, p i x) : ∃ q : Nat → α, ∀ i, i < n → p i (q i) := by
  refine ⟨fun i => if hi : i < n then Classical.choose (h i hi) else default, fun i hi => ?_⟩
  simp only [dif_pos hi]
  exact Classical.choose_spec (h i hi)
/-- a world with the listed variables laid as the list says. -/
def laidHeap (w : World) : World :=
  { w with heap := (w.heap.modify 0 (laidCells #[.iface 144 (.agg #[.pointer (some ⟨2, 30, none⟩)])])).modify 1 (laidCells cells16) }
theorem laidHeap_met (os : Os) (args : Array Value) : laidMetH Tryz.prog laidAll ((laidHeap (World.holding Tryz.prog os ⟨#[], #[], []⟩)).forCall (fun _ _ => 0) ⟨#[], args, []⟩).memory :=
  laidMetH_of_parts (laidMet_of_run' 32 (by kernel_rfl) (by kernel_rfl)) (by kernel_rfl)
end Go.Proofs.YtamedcnjanichabGreatDoor

namespace Go.Proofs.YtamedcnjanichabGreatDoor.Hi
open Go.ChangeShapes Go.WideShapes Go.RowKit Go.Deep Go.Extern

theorem cells_u32 : Tryz.prog.cellsOf 39 = 1 := by kernel_rfl
theorem cells_u64 : Tryz.prog.cellsOf 41 = 1 := by kernel_rfl
theorem cells_u32s : Tryz.prog.cellsOf 22 = 1 := by kernel_rfl
theorem cells_lks : Tryz.prog.cellsOf 23 = 1 := by kernel_rfl
theorem cells_lk : Tryz.prog.cellsOf 43 = 4 := by kernel_rfl
theorem cells_hier : Tryz.prog.cellsOf 25 = 5 := by kernel_rfl
theorem u32_range {x : Int} (h : (Lit.int .u32 x).wf = true) : 0 ≤ x ∧ x ≤ 4294967295 := by
  simp [Lit.wf] at h
  have e1 : IntKind.u32.min = 0 := by kernel_rfl
  have e2 : IntKind.u32.max = 4294967295 := by kernel_rfl
  rw [e1, e2] at h
  exact h
theorem u64_range {x : Int} (h : (Lit.int .u64 x).wf = true) : 0 ≤ x ∧ x ≤ 18446744073709551615 := by
  simp [Lit.wf] at h
  have e1 : IntKind.u64.min = 0 := by kernel_rfl
  have e2 : IntKind.u64.max = 18446744073709551615 := by kernel_rfl
  rw [e1, e2] at h
  exact h
theorem trod_struct5 {H : Type} {enc : TypeId × Value → H} {P : Program} {w : World} {base : Nat} {spare : Nat → Bool} {held : Bool} {t : TypeId} {f0 f1 f2 f3 f4 : Field} {fuel : Nat} {cs : List Value} {x : DataW H × List MemPlace} (ht : P.underlying t = some (.struct #[f0, f1, f2, f3, f4])) (h : DataW.trod enc P w base spare held fuel t cs = some x) :
    ∃ y0 y1 y2 y3 y4 n, x.1 = .agg [y0.1, y1.1, y2.1, y3.1, y4.1] ∧ DataW.trod enc P w base spare held n f0.type ((cs.drop f0.offset).take (P.cellsOf f0.type)) = some y0 ∧
      DataW.trod enc P w base spare held n f1.type ((cs.drop f1.offset).take (P.cellsOf f1.type)) = some y1 ∧ DataW.trod enc P w base spare held n f2.type ((cs.drop f2.offset).take (P.cellsOf f2.type)) = some y2 ∧
      DataW.trod enc P w base spare held n f3.type ((cs.drop f3.offset).take (P.cellsOf f3.type)) = some y3 ∧ DataW.trod enc P w base spare held n f4.type ((cs.drop f4.offset).take (P.cellsOf f4.type)) = some y4 := by
  obtain ⟨xs, n, _, rfl, hl, hlen, hf⟩ := DataW.trod_struct ht h
  match xs, hlen with
  | [y0, y1, y2, y3, y4], _ => exact ⟨y0, y1, y2, y3, y4, n, by simp, by simpa using hf 0 f0 rfl, by simpa using hf 1 f1 rfl, by simpa using hf 2 f2 rfl, by simpa using hf 3 f3 rfl, by simpa using hf 4 f4 rfl⟩
/-- what a list of n reads as. -/
def ReadsN {H : Type} (d : DataW H) (n : Nat) : Prop := n = 0 ∨ ∃ el sp, d = .slice el sp ∧ el.length = n
theorem row_get {α : Type} {n : Nat} {q : Nat → α} {j : Nat} {r : α} (hj : ((List.range n).map q)[j]? = some r) : j < n ∧ r = q j := by
  have hj' : j < n := by
    have := (List.getElem?_eq_some_iff.1 hj).1
    rw [List.length_map, List.length_range] at this
    exact this
  rw [List.getElem?_map, List.getElem?_range hj'] at hj
  exact ⟨hj', (Option.some.inj hj).symm⟩
set_option maxRecDepth 100000 in
theorem words_open {H : Type} {enc : TypeId × Value → H} {W : World} {fuel : Nat} {g : Value} {y : DataW H × List MemPlace} (t1 : DataW.trod enc Tryz.prog W 0 (fun _ => true) true fuel 22 [g] = some y) :
    ∃ (ao : Option Addr) (cap : Nat) (l : List Nat), g = .slice ao l.length cap ∧ HasWs W (.slice ao l.length cap) l ∧ ReadsN y.1 l.length := by
  rcases open_slice1 Tryz.underlying22 cells_u32 t1 with ⟨hcs, _⟩ | ⟨a, len', cap', m, n, V, D, Pl, hcs, _, hl, hm, hmm, rfl, hx⟩
  · have e : g = .slice none 0 0 := by simpa using hcs
    subst e
    exact ⟨none, 0, [], rfl, ⟨none, 0, rfl, Nat.le_refl _, fun j q hj => by simp at hj⟩, Or.inl rfl⟩
  · have e : g = .slice (some a) len' cap' := by simpa using hcs
    subst e
    simp at hmm
    subst hmm
    have hq : ∀ i, i < len' → ∃ q : Nat, W.cell? (a.add i) = some (.int .u32 (q : Int)) ∧ q < 4294967296 := fun i hi => by
      obtain ⟨h1, h2⟩ := hx i (by omega)
      obtain ⟨x0, e0, _, e9⟩ := DataW.trod_int Tryz.underlying39 h2
      simp at e0
      rw [e0] at h1
      have r := u32_range e9
      obtain ⟨q, rfl⟩ : ∃ q : Nat, x0 = q := ⟨x0.toNat, by omega⟩
      exact ⟨q, h1, by omega⟩
    obtain ⟨q, hq'⟩ := choose_lt hq
    have hlen : ((List.range len').map q).length = len' := by rw [List.length_map, List.length_range]
    refine ⟨some a, m, (List.range len').map q, by rw [hlen], ⟨some a, m, rfl, by rw [hlen]; exact hl, fun j r hj => ?_⟩, Or.inr ⟨_, _, rfl, by rw [List.length_map, List.length_range, hlen]⟩⟩
    obtain ⟨hj', rfl⟩ := row_get hj
    refine ⟨(hq' j hj').2, ?_⟩
    have h0 := (hq' j hj').1
    obtain ⟨b, off, spot⟩ := a
    have hspot : spot = none := by
      have h00 := (hq' 0 (by omega)).1
      simpa [Addr.add] using World.cell?_spot h00
    subst hspot
    have e1 : (Addr.mk b off none).add j = ⟨b, off + j, none⟩ := add_plain _ _ _
    rw [e1] at h0
    have hlt : b < W.heap.size := by
      rcases Nat.lt_or_ge b W.heap.size with h | h
      · exact h
      · simp [World.cell?, Array.getElem?_eq_none h] at h0
    exact ⟨b, off, rfl, hlt, h0⟩
set_option maxRecDepth 100000 in
theorem links_open {H : Type} {enc : TypeId × Value → H} {W : World} {fuel : Nat} {g : Value} {y : DataW H × List MemPlace} (t1 : DataW.trod enc Tryz.prog W 0 (fun _ => true) true fuel 23 [g] = some y) :
    ∃ (ao : Option Addr) (cap : Nat) (l : List Lk), g = .slice ao l.length cap ∧ HasLs W (.slice ao l.length cap) l ∧ ReadsN y.1 l.length := by
  rcases open_slice Tryz.underlying23 t1 with ⟨hcs, _⟩ | ⟨a, len', cap', m, n, D, Pl, hcs, _, hl, hm, hmm, rfl, hx⟩
  · have e : g = .slice none 0 0 := by simpa using hcs
    subst e
    exact ⟨none, 0, [], rfl, ⟨none, 0, rfl, Nat.le_refl _, fun j q hj => by simp at hj⟩, Or.inl rfl⟩
  · have e : g = .slice (some a) len' cap' := by simpa using hcs
    subst e
    simp at hmm
    subst hmm
    have hq : ∀ i, i < len' → ∃ q : Lk, q.ok ∧ W.cell? (a.add (i * 4)) = some (.int .u32 (q.hd : Int)) ∧ W.cell? ((a.add (i * 4)).add 1) = some (.int .u64 (q.wt : Int)) ∧ W.cell? ((a.add (i * 4)).add 2) = some (.int .u32 (q.lf : Int)) ∧ W.cell? ((a.add (i * 4)).add 3) = some (.int .u32 (q.rt : Int)) := fun i hi => by
      obtain ⟨cs', h1, h2⟩ := hx i (by omega)
      rw [cells_lk] at h1
      obtain ⟨_, hlen, hcell⟩ := World.cells?_some h1
      obtain ⟨c0, c1, c2, c3, rfl⟩ : ∃ c0 c1 c2 c3, cs' = [c0, c1, c2, c3] := by
        match cs', hlen with
        | [c0, c1, c2, c3], _ => exact ⟨c0, c1, c2, c3, rfl⟩
      obtain ⟨y0, y1, y2, y3, m, _, _, t0, t1, t2, t3⟩ := Go.Joins.trod_struct4 Tryz.underlying43 h2
      rw [cells_u32] at t0 t2 t3
      rw [cells_u64] at t1
      obtain ⟨x0, e0, _, r0⟩ := DataW.trod_int Tryz.underlying39 t0
      obtain ⟨x1, e1, _, r1⟩ := DataW.trod_int Tryz.underlying41 t1
      obtain ⟨x2, e2, _, r2⟩ := DataW.trod_int Tryz.underlying39 t2
      obtain ⟨x3, e3, _, r3⟩ := DataW.trod_int Tryz.underlying39 t3
      simp at e0 e1 e2 e3
      subst e0 e1 e2 e3
      have s0 := u32_range r0
      have s1 := u64_range r1
      have s2 := u32_range r2
      have s3 := u32_range r3
      obtain ⟨n0, rfl⟩ : ∃ q : Nat, x0 = q := ⟨x0.toNat, by omega⟩
      obtain ⟨n1, rfl⟩ : ∃ q : Nat, x1 = q := ⟨x1.toNat, by omega⟩
      obtain ⟨n2, rfl⟩ : ∃ q : Nat, x2 = q := ⟨x2.toNat, by omega⟩
      obtain ⟨n3, rfl⟩ : ∃ q : Nat, x3 = q := ⟨x3.toNat, by omega⟩
      have g0 := hcell 0 (by omega)
      have g1 := hcell 1 (by omega)
      have g2 := hcell 2 (by omega)
      have g3 := hcell 3 (by omega)
      exact ⟨⟨n0, n1, n2, n3⟩, by unfold Lk.ok; dsimp only; omega, by simpa [Addr.add] using g0, by simpa using g1, by simpa using g2, by simpa using g3⟩
    obtain ⟨q, hq'⟩ := choose_lt hq
    have hlen : ((List.range len').map q).length = len' := by rw [List.length_map, List.length_range]
    refine ⟨some a, m, (List.range len').map q, by rw [hlen], ⟨some a, m, rfl, by rw [hlen]; exact hl, fun j r hj => ?_⟩, Or.inr ⟨_, _, rfl, by rw [List.length_map, List.length_range, hlen]⟩⟩
    obtain ⟨hj', rfl⟩ := row_get hj
    obtain ⟨ok, h0, h1, h2, h3⟩ := hq' j hj'
    refine ⟨ok, ?_⟩
    obtain ⟨b, off, spot⟩ := a
    have hspot : spot = none := by
      have h00 := (hq' 0 (by omega)).2.1
      simpa [Addr.add] using World.cell?_spot h00
    subst hspot
    have e1 : (Addr.mk b off none).add (j * 4) = ⟨b, off + j * 4, none⟩ := add_plain _ _ _
    rw [e1] at h0 h1 h2 h3
    have e2 : ∀ i, (Addr.mk b (off + j * 4) none).add i = ⟨b, off + j * 4 + i, none⟩ := fun i => add_plain _ _ _
    rw [e2] at h1 h2 h3
    have hlt : b < W.heap.size := by
      rcases Nat.lt_or_ge b W.heap.size with h | h
      · exact h
      · simp [World.cell?, Array.getElem?_eq_none h] at h0
    exact ⟨b, off, rfl, hlt, h0, h1, h2, h3⟩
theorem bytes_u32 : Tryz.prog.bytesOf 39 = 4 := by kernel_rfl
theorem bytes_lk : Tryz.prog.bytesOf 43 = 24 := by kernel_rfl
theorem reach_w {H : Type} {ts : List TypeId} {r : List (DataW H)} (hsz : (DataW.weightsEach Tryz.prog ts r).all (· ≤ reachBytes) = true) {j : Nat} {d0 d1 d2 d3 d4 : DataW H} (ht : ts[j]? = some 25) (hd : r[j]? = some (.agg [d0, d1, d2, d3, d4])) {n : Nat} {d : DataW H} (hh : d = d0 ∨ d = d1 ∨ d = d3) (hr : ReadsN d n) : n * 4 ≤ 140737488351232 := by
  rcases hr with rfl | ⟨el, sp, rfl, hl⟩
  · simp
  · have hm := List.all_eq_true.1 hsz _ (DataW.weights_mem_each (j := j) (t := 25) (d := .agg [d0, d1, d2, d3, d4]) ht hd ((el.length + sp.length) * Tryz.prog.bytesOf 39) (by
      rcases hh with rfl | rfl | rfl <;> simp [DataW.weights, DataW.weightsEach, Tryz.underlying25, Tryz.underlying22]))
    have hm' : (el.length + sp.length) * Tryz.prog.bytesOf 39 ≤ reachBytes := by simpa using hm
    rw [bytes_u32] at hm'
    unfold reachBytes at hm'
    omega
theorem reach_l {H : Type} {ts : List TypeId} {r : List (DataW H)} (hsz : (DataW.weightsEach Tryz.prog ts r).all (· ≤ reachBytes) = true) {j : Nat} {d0 d1 d2 d3 d4 : DataW H} (ht : ts[j]? = some 25) (hd : r[j]? = some (.agg [d0, d1, d2, d3, d4])) {n : Nat} {d : DataW H} (hh : d = d2 ∨ d = d4) (hr : ReadsN d n) : n * 24 ≤ 140737488351232 := by
  rcases hr with rfl | ⟨el, sp, rfl, hl⟩
  · simp
  · have hm := List.all_eq_true.1 hsz _ (DataW.weights_mem_each (j := j) (t := 25) (d := .agg [d0, d1, d2, d3, d4]) ht hd ((el.length + sp.length) * Tryz.prog.bytesOf 43) (by
      rcases hh with rfl | rfl <;> simp [DataW.weights, DataW.weightsEach, Tryz.underlying25, Tryz.underlying23]))
    have hm' : (el.length + sp.length) * Tryz.prog.bytesOf 43 ≤ reachBytes := by simpa using hm
    rw [bytes_lk] at hm'
    unfold reachBytes at hm'
    omega
set_option maxRecDepth 100000 in
theorem hier_open {H : Type} {enc : TypeId × Value → H} {W : World} {base : Nat} {v : Value} {d : DataW H} {p : List MemPlace} (hv : Value.okWide Tryz.prog W .any base 25 v) (h : DataW.Trod enc Tryz.prog W 0 (fun _ => true) true 25 v d p) :
    ∃ (x : HV) (a : Hr) (d0 d1 d2 d3 d4 : DataW H), v = hvl x a ∧ HasH W x a ∧ d = .agg [d0, d1, d2, d3, d4] ∧ ReadsN d0 a.node.length ∧ ReadsN d2 a.up.length ∧ ReadsN d4 a.dn.length ∧ ReadsN d1 a.upF.length ∧ ReadsN d3 a.dnF.length := by
  obtain ⟨cs, rfl, hsz⟩ := okWide_struct Tryz.underlying25 hv
  rw [cells_hier] at hsz
  obtain ⟨g0, g1, g2, g3, g4, rfl⟩ : ∃ g0 g1 g2 g3 g4, cs = #[g0, g1, g2, g3, g4] := by
    obtain ⟨l⟩ := cs
    match l, hsz with
    | [g0, g1, g2, g3, g4], _ => exact ⟨g0, g1, g2, g3, g4, rfl⟩
  obtain ⟨fuel, hf⟩ := h
  have hf' : DataW.trod enc Tryz.prog W 0 (fun _ => true) true fuel 25 [g0, g1, g2, g3, g4] = some (d, p) := hf
  obtain ⟨y0, y1, y2, y3, y4, m, hd, t0, t1, t2, t3, t4⟩ := trod_struct5 Tryz.underlying25 hf'
  rw [cells_u32s] at t0 t1 t3
  rw [cells_lks] at t2 t4
  simp at t0 t1 t2 t3 t4
  obtain ⟨o0, c0, l0, rfl, h0, b0⟩ := words_open t0
  obtain ⟨o1, c1, l1, rfl, h1, b1⟩ := words_open t1
  obtain ⟨o2, c2, l2, rfl, h2, b2⟩ := links_open t2
  obtain ⟨o3, c3, l3, rfl, h3, b3⟩ := words_open t3
  obtain ⟨o4, c4, l4, rfl, h4, b4⟩ := links_open t4
  exact ⟨⟨o0, o1, o2, o3, o4, c0, c1, c2, c3, c4⟩, ⟨l0, l1, l2, l3, l4⟩, y0.1, y1.1, y2.1, y3.1, y4.1, rfl, ⟨h0, h1, h2, h3, h4⟩, hd, b0, b2, b4, b1, b3⟩
end Go.Proofs.YtamedcnjanichabGreatDoor.Hi

namespace Go.Proofs.YtamedcnjanichabGreatDoor
open Go.ChangeShapes Go.WideShapes Go.RowKit Go.Deep Go.Extern Cr

theorem u8_range {x : Int} (h : (Lit.int .u8 x).wf = true) : 0 ≤ x ∧ x ≤ 255 := by
  simp [Lit.wf] at h
  have e1 : IntKind.u8.min = 0 := by kernel_rfl
  have e2 : IntKind.u8.max = 255 := by kernel_rfl
  rw [e1, e2] at h
  omega
theorem i64_range {x : Int} (h : (Lit.int .i64 x).wf = true) : -9223372036854775808 ≤ x ∧ x ≤ 9223372036854775807 := by
  simp [Lit.wf] at h
  have e1 : IntKind.i64.min = -9223372036854775808 := by kernel_rfl
  rw [e1] at h
  omega
theorem Tryz.bytesU8 : Tryz.prog.bytesOf 5 = 1 := by kernel_rfl
/-- how a list of bytes reads. -/
def ReadsB {H : Type} (d : DataW H) (l : List Nat) : Prop := l = [] ∨ ∃ el sp, d = .slice el sp ∧ el.length = l.length
set_option maxRecDepth 100000 in
theorem bytes_open' {H : Type} {enc : TypeId × Value → H} {W : World} {fuel : Nat} {g : Value} {y : DataW H × List MemPlace} (t1 : DataW.trod enc Tryz.prog W 0 (fun _ => true) true fuel 26 [g] = some y) :
    ∃ (ao : Option Addr) (cap : Nat) (l : List Nat), g = .slice ao l.length cap ∧ HasB W (.slice ao l.length cap) l ∧ Bts l ∧ ReadsB y.1 l ∧ l.length ≤ cap ∧ (ao = none → cap = 0) := by
  rcases open_slice1 Tryz.underlying26 Tryz.cellsU8 t1 with ⟨hcs, _⟩ | ⟨a, len', cap', m, n, V, D, Pl, hcs, _, hl, hm, hmm, rfl, hx⟩
  · have e : g = .slice none 0 0 := by simpa using hcs
    subst e
    refine ⟨none, 0, [], rfl, ⟨none, 0, rfl, fun j q hj => by simp at hj⟩, ?_, Or.inl rfl, Nat.le_refl _, fun _ => rfl⟩
    intro x hx
    cases hx
  · have e : g = .slice (some a) len' cap' := by simpa using hcs
    subst e
    simp at hmm
    subst hmm
    have hq : ∀ i, i < len' → ∃ q : Nat, W.cell? (a.add i) = some (.int .u8 (q : Int)) ∧ q < 256 := fun i hi => by
      obtain ⟨h1, h2⟩ := hx i (by omega)
      obtain ⟨x0, e0, _, e9⟩ := DataW.trod_int Tryz.underlying5 h2
      simp at e0
      rw [e0] at h1
      have r := u8_range e9
      obtain ⟨q, rfl⟩ : ∃ q : Nat, x0 = q := ⟨x0.toNat, by omega⟩
      exact ⟨q, h1, by omega⟩
    obtain ⟨q, hq'⟩ := choose_lt hq
    have hlen : ((List.range len').map q).length = len' := by rw [List.length_map, List.length_range]
    refine ⟨some a, m, (List.range len').map q, by rw [hlen], ⟨some a, m, rfl, fun j r hj => ?_⟩, ?_, Or.inr ⟨_, _, rfl, by rw [List.length_map, List.length_range, hlen]⟩, by rw [hlen]; exact hl, fun h => by cases h⟩
    · have hj' : j < len' := by
        have := (List.getElem?_eq_some_iff.1 hj).1
        rw [hlen] at this
        exact this
      have er : r = q j := by
        rw [List.getElem?_map, List.getElem?_range hj'] at hj
        exact (Option.some.inj hj).symm
      subst er
      have h0 := (hq' j hj').1
      obtain ⟨b, off, spot⟩ := a
      have hspot : spot = none := by
        have h00 := (hq' 0 (by omega)).1
        simpa [Addr.add] using World.cell?_spot h00
      subst hspot
      have e1 : (Addr.mk b off none).add j = ⟨b, off + j, none⟩ := add_plain _ _ _
      rw [e1] at h0
      have hlt : b < W.heap.size := by
        rcases Nat.lt_or_ge b W.heap.size with h | h
        · exact h
        · simp [World.cell?, Array.getElem?_eq_none h] at h0
      exact ⟨b, off, rfl, hlt, h0⟩
    · intro v hv
      obtain ⟨i, hi, rfl⟩ := List.mem_map.1 hv
      exact (hq' i (List.mem_range.1 hi)).2
set_option maxRecDepth 100000 in
theorem bytes_open {H : Type} {enc : TypeId × Value → H} {W : World} {base : Nat} {v : Value} {d : DataW H} {p : List MemPlace} (hv : Value.okWide Tryz.prog W .any base 26 v) (h : DataW.Trod enc Tryz.prog W 0 (fun _ => true) true 26 v d p) :
    ∃ (ao : Option Addr) (cap : Nat) (l : List Nat), v = .slice ao l.length cap ∧ HasB W (.slice ao l.length cap) l ∧ Bts l ∧ ReadsB d l ∧ l.length ≤ cap ∧ (ao = none → cap = 0) := by
  obtain ⟨a, len, cap, rfl⟩ := okWide_slice Tryz.underlying26 hv
  obtain ⟨fuel, hf⟩ := h
  have hf' : DataW.trod enc Tryz.prog W 0 (fun _ => true) true fuel 26 [.slice a len cap] = some (d, p) := hf
  exact bytes_open' hf'
/-- a list takes no more than the form's reach. -/
theorem reach_bytes {H : Type} {ts : List TypeId} {r : List (DataW H)} (hsz : (DataW.weightsEach Tryz.prog ts r).all (· ≤ reachBytes) = true) {j : Nat} {d : DataW H} {l : List Nat} (ht : ts[j]? = some 26) (hd : r[j]? = some d) (hr : ReadsB d l) : l.length ≤ 140737488351232 := by
  rcases hr with rfl | ⟨el, sp, rfl, hl⟩
  · simp
  · have hm := List.all_eq_true.1 hsz _ (DataW.weights_mem_each (j := j) (t := 26) (d := .slice el sp) ht hd ((el.length + sp.length) * Tryz.prog.bytesOf 5) (by
      simp [DataW.weights, Tryz.underlying26]))
    have hm' : (el.length + sp.length) * Tryz.prog.bytesOf 5 ≤ reachBytes := by simpa using hm
    rw [Tryz.bytesU8] at hm'
    unfold reachBytes at hm'
    omega
theorem words_nil {H : Type} {enc : TypeId × Value → H} {W : World} {fuel n cap : Nat} {ao : Option Addr} {y : DataW H × List MemPlace} (t1 : DataW.trod enc Tryz.prog W 0 (fun _ => true) true fuel 22 [.slice ao n cap] = some y) : ao = none → cap = 0 := by
  rcases open_slice1 Tryz.underlying22 Hi.cells_u32 t1 with ⟨hcs, _⟩ | ⟨a, len', cap', m, n2, V, D, Pl, hcs, _, hl, hm, hmm, rfl, hx⟩
  · have e : Value.slice ao n cap = .slice none 0 0 := by simpa using hcs
    injection e with _ _ e3
    intro _
    exact e3
  · have e : Value.slice ao n cap = .slice (some a) len' cap' := by simpa using hcs
    injection e with e1
    intro h
    rw [h] at e1
    cases e1
set_option maxRecDepth 100000 in
theorem hier_nil {H : Type} {enc : TypeId × Value → H} {W : World} {x : Hi.HV} {a : Hi.Hr} {d : DataW H} {p : List MemPlace} (h : DataW.Trod enc Tryz.prog W 0 (fun _ => true) true 25 (Hi.hvl x a) d p) : NilH x := by
  obtain ⟨fuel, hf⟩ := h
  have hf' : DataW.trod enc Tryz.prog W 0 (fun _ => true) true fuel 25 [.slice x.no a.node.length x.nc, .slice x.uo a.upF.length x.uc, .slice x.ul a.up.length x.ulc, .slice x.wo a.dnF.length x.wc, .slice x.dl a.dn.length x.dlc] = some (d, p) := hf
  obtain ⟨y0, y1, y2, y3, y4, m, hd, t0, t1, t2, t3, t4⟩ := Hi.trod_struct5 Tryz.underlying25 hf'
  rw [Hi.cells_u32s] at t0 t1 t3
  simp at t0 t1 t3
  exact ⟨words_nil t0, words_nil t1, words_nil t3⟩
end Go.Proofs.YtamedcnjanichabGreatDoor
