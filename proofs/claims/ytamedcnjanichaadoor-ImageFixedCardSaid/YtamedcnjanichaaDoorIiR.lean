/- The frame of a law's proof over this translation: what the two listed variables give a walk; a world that meets the list; that arguments read as they did where nothing old has turned; and the row of a law out of its walk. -/
import Derived.Test.YtamedcnjanichaaDoorRows
import Derived.Test.YtamedcnjanichaaDoorSeen
import Derived.Test.YtamedcnjanichaaDoorCrX
import Derived.ChangeSame
import Derived.ChangeVars
import Derived.JoinedOf
import Derived.RowKit
import Derived.RowKitTokens
import Derived.LaidLaws
import Derived.LaidHandle
import Derived.Stop.Joined
import Derived.Carry
import Derived.Lay
import Derived.MakeChecks
import Derived.Deep.Slices
import Derived.Deep.Strs
import Derived.SizedLaws
namespace Go.Proofs.YtamedcnjanichaaDoor
open Go.ChangeShapes Go.WideShapes Go.RowKit Go.Deep Cr

theorem Tryd.own : ownKnob Tryd.prog.godebug = none := by kernel_rfl
theorem Tryd.laidOut : laidOutB Tryd.prog = true := by kernel_rfl
theorem Tryd.et : Tryd.prog.globalNamed "errors.errorType" = some 0 := by kernel_rfl
theorem Tryd.rt : (Tryd.prog.cutTypes.find? (·.1 == "internal/reflectlite.rtype")).map (·.2) = some 135 := by kernel_rfl
theorem Tryd.oneRow : ((List.range Tryd.prog.types.size).filter fun t => Tryd.prog.rowNamed t [101, 114, 114, 111, 114]) = [30] := by kernel_rfl
theorem Tryd.fours : Tryd.prog.globalNamed "viaduct/crc.fours" = some 1 := by kernel_rfl
theorem Tryd.foursType : (Tryd.prog.globals[1]?).map (·.type) = some 150 := by kernel_rfl
theorem Tryd.cellsA : Tryd.prog.cellsOf 150 = 16 := by kernel_rfl
theorem Tryd.cellsW : Tryd.prog.cellsOf 42 = 1 := by kernel_rfl
theorem Tryd.cellsU8 : Tryd.prog.cellsOf 5 = 1 := by kernel_rfl
/-- the listed variables, as every row of this seat lists them. -/
def laidAll : List (String × DataW Unit) := [("viaduct/crc.fours", Rows.laid_viaduct_crc_fours), ("errors.errorType", Rows.laid_errors_errorType)]

theorem hasType_of_laid {W : World} (h : laidMetH Tryd.prog laidAll W) : HasType W := by
  have h' : laidMet Tryd.prog [("viaduct/crc.fours", Rows.laid_viaduct_crc_fours)] W ∧ handlesMet Tryd.prog [("errors.errorType", Rows.laid_errors_errorType)] W := h
  obtain ⟨name, u, ty, e1, e2, e3, e4, e5⟩ := h'.2 _ (List.mem_singleton.2 rfl)
  have en : name = [101, 114, 114, 111, 114] := (Option.some.inj e1).symm
  subst en
  obtain rfl := Option.some.inj (Tryd.rt.symm.trans e2)
  have hm : ty ∈ (List.range Tryd.prog.types.size).filter fun t => Tryd.prog.rowNamed t [101, 114, 114, 111, 114] := List.mem_filter.2 ⟨List.mem_range.2 e3, e4⟩
  rw [Tryd.oneRow] at hm
  obtain rfl := List.mem_singleton.1 hm
  have hh : typeHandle Tryd.prog 30 = .pointer (some ⟨2, 30, none⟩) := by kernel_rfl
  rw [hh] at e5
  exact (by simpa using World.var?_cell Tryd.et e5 0 : W.cell? ⟨0, 0, none⟩ = _)
theorem int_of_trod {H : Type} {enc : TypeId × Value → H} {P : Program} {w : World} {base : Nat} {sp : Nat → Bool} {held : Bool} {fuel : Nat} {t : TypeId} {k : IntKind} {c : Value} {y : DataW H × List MemPlace}
    (ht : P.underlying t = some (.int k)) (h : DataW.trod enc P w base sp held fuel t [c] = some y) : ∃ n, c = .int k n ∧ y = (.lit (.int k n), []) := by
  cases fuel with
  | zero => simp [DataW.trod] at h
  | succ fuel =>
    cases c <;> simp [DataW.trod, ht] at h
    rename_i k' n
    obtain ⟨⟨rfl, _⟩, rfl⟩ := h
    exact ⟨n, rfl, rfl⟩
def cells16 : Array Value := #[.int .u32 0, .int .u32 498536548, .int .u32 997073096, .int .u32 651767980, .int .u32 1994146192, .int .u32 1802195444, .int .u32 1303535960, .int .u32 1342533948, .int .u32 3988292384, .int .u32 4027552580, .int .u32 3604390888, .int .u32 3412177804, .int .u32 2607071920, .int .u32 2262029012, .int .u32 2685067896, .int .u32 3183342108]
set_option maxRecDepth 100000 in
set_option maxHeartbeats 2000000 in
theorem cells_of_laid {W : World} (h : laidMet Tryd.prog [("viaduct/crc.fours", Rows.laid_viaduct_crc_fours)] W) : W.var? Tryd.prog "viaduct/crc.fours" = some cells16 := by
  obtain ⟨ps, ⟨g, t, cs, fuel, p, q, hg, ht, hvar, hd, _, _⟩, _⟩ := h
  obtain rfl := Option.some.inj (Tryd.fours.symm.trans hg)
  obtain rfl := Option.some.inj (Tryd.foursType.symm.trans ht)
  rw [hvar]
  congr 1
  obtain ⟨l⟩ := cs
  cases fuel with
  | zero => simp [DataW.trod] at hd
  | succ fuel =>
    simp only [DataW.trod, Tryd.underlying150, Tryd.cellsA, Tryd.cellsW] at hd
    split at hd
    · rename_i hl
      obtain ⟨c0, c1, c2, c3, c4, c5, c6, c7, c8, c9, c10, c11, c12, c13, c14, c15, rfl⟩ : ∃ c0 c1 c2 c3 c4 c5 c6 c7 c8 c9 c10 c11 c12 c13 c14 c15, l = [c0, c1, c2, c3, c4, c5, c6, c7, c8, c9, c10, c11, c12, c13, c14, c15] := by
        match l, hl with
        | [c0, c1, c2, c3, c4, c5, c6, c7, c8, c9, c10, c11, c12, c13, c14, c15], _ => exact ⟨c0, c1, c2, c3, c4, c5, c6, c7, c8, c9, c10, c11, c12, c13, c14, c15, rfl⟩
      have e : List.range 16 = [0, 1, 2, 3, 4, 5, 6, 7, 8, 9, 10, 11, 12, 13, 14, 15] := rfl
      rw [e] at hd
      simp only [Option.map_eq_some_iff, List.mapM_cons, List.mapM_nil, Option.bind_eq_bind, Option.bind_eq_some_iff, Option.pure_def, Option.some.injEq] at hd
      obtain ⟨xs, ⟨y0, h0, _, ⟨y1, h1, _, ⟨y2, h2, _, ⟨y3, h3, _, ⟨y4, h4, _, ⟨y5, h5, _, ⟨y6, h6, _, ⟨y7, h7, _, ⟨y8, h8, _, ⟨y9, h9, _, ⟨y10, h10, _, ⟨y11, h11, _, ⟨y12, h12, _, ⟨y13, h13, _, ⟨y14, h14, _, ⟨y15, h15, _, rfl, rfl⟩, rfl⟩, rfl⟩, rfl⟩, rfl⟩, rfl⟩, rfl⟩, rfl⟩, rfl⟩, rfl⟩, rfl⟩, rfl⟩, rfl⟩, rfl⟩, rfl⟩, rfl⟩, hx⟩ := hd
      obtain ⟨n0, rfl, rfl⟩ := int_of_trod Tryd.underlying42 h0
      obtain ⟨n1, rfl, rfl⟩ := int_of_trod Tryd.underlying42 h1
      obtain ⟨n2, rfl, rfl⟩ := int_of_trod Tryd.underlying42 h2
      obtain ⟨n3, rfl, rfl⟩ := int_of_trod Tryd.underlying42 h3
      obtain ⟨n4, rfl, rfl⟩ := int_of_trod Tryd.underlying42 h4
      obtain ⟨n5, rfl, rfl⟩ := int_of_trod Tryd.underlying42 h5
      obtain ⟨n6, rfl, rfl⟩ := int_of_trod Tryd.underlying42 h6
      obtain ⟨n7, rfl, rfl⟩ := int_of_trod Tryd.underlying42 h7
      obtain ⟨n8, rfl, rfl⟩ := int_of_trod Tryd.underlying42 h8
      obtain ⟨n9, rfl, rfl⟩ := int_of_trod Tryd.underlying42 h9
      obtain ⟨n10, rfl, rfl⟩ := int_of_trod Tryd.underlying42 h10
      obtain ⟨n11, rfl, rfl⟩ := int_of_trod Tryd.underlying42 h11
      obtain ⟨n12, rfl, rfl⟩ := int_of_trod Tryd.underlying42 h12
      obtain ⟨n13, rfl, rfl⟩ := int_of_trod Tryd.underlying42 h13
      obtain ⟨n14, rfl, rfl⟩ := int_of_trod Tryd.underlying42 h14
      obtain ⟨n15, rfl, rfl⟩ := int_of_trod Tryd.underlying42 h15
      simp [Rows.laid_viaduct_crc_fours] at hx
      obtain ⟨⟨rfl, rfl, rfl, rfl, rfl, rfl, rfl, rfl, rfl, rfl, rfl, rfl, rfl, rfl, rfl, rfl⟩, _⟩ := hx
      rfl
    · cases hd
theorem fours_of_laid {W : World} (h : laidMetH Tryd.prog laidAll W) : HasFours W ∧ 1 < W.heap.size := by
  have h' : laidMet Tryd.prog [("viaduct/crc.fours", Rows.laid_viaduct_crc_fours)] W ∧ handlesMet Tryd.prog [("errors.errorType", Rows.laid_errors_errorType)] W := h
  have hv := cells_of_laid h'.1
  have hc : ∀ i, W.cell? ⟨1, i, none⟩ = cells16[i]? := fun i => World.var?_cell Tryd.fours hv i
  refine ⟨fun i hi => ?_, ?_⟩
  · rw [hc i]
    match i, hi with
    | 0, _ => rfl
    | 1, _ => rfl
    | 2, _ => rfl
    | 3, _ => rfl
    | 4, _ => rfl
    | 5, _ => rfl
    | 6, _ => rfl
    | 7, _ => rfl
    | 8, _ => rfl
    | 9, _ => rfl
    | 10, _ => rfl
    | 11, _ => rfl
    | 12, _ => rfl
    | 13, _ => rfl
    | 14, _ => rfl
    | 15, _ => rfl
    | n + 16, h => omega
  · have h0 := hc 0
    rcases Nat.lt_or_ge 1 W.heap.size with h' | h'
    · exact h'
    · simp [World.cell?, Array.getElem?_eq_none h', cells16] at h0
theorem trodAll_stays {H : Type} {enc : TypeId × Value → H} {W W' : World} (hb : Below W.heap.size W W') : ∀ {ts : List TypeId} {vs : List Value} {ds : List (DataW H)} {ps : List MemPlace},
    (∀ t ∈ ts, Tryd.prog.readableRec t = true ∧ t < Tryd.prog.types.size) → DataW.TrodAll enc Tryd.prog W 0 (fun _ => true) true ts vs ds ps → DataW.TrodAll enc Tryd.prog W' 0 (fun b => decide (b < W.heap.size)) true ts vs ds ps
  | [], vs, ds, ps, _, h => by
    obtain ⟨rfl, rfl, rfl⟩ := trodAll_nil h
    exact trodAll_mk0
  | t :: ts, vs, ds, ps, hr, h => by
    have hlt := h.lt
    obtain ⟨v, vs', d, ds', p, q, rfl, rfl, rfl, h0, h1⟩ := trodAll_cons h
    exact ⟨p, q, Below.trod Tryd.laidOut (hr t (by simp)).1 (hr t (by simp)).2 h0 hb (fun x hx => hlt x (by simp [hx])), trodAll_stays hb (fun t' ht' => hr t' (by simp [ht'])) h1, rfl⟩

/-- A LAW's CALL, FROM ITS WALK: true, nothing old turned: the row's own word. -/
theorem post_of_law {H : Type} {enc : TypeId × Value → H} {s : ChangeSpec} {fn : Func} {W W' : World} {args : Array Value} {ds gs : List (DataW H)} {before : List MemPlace}
    (hW : DataW.Whole enc Tryd.prog fn.params.toList s.vars false W args.toList ds gs before) (hv : s.vars = []) (hres : fn.resultTypes = #[4])
    (hfn : s.fn H (ds ++ gs) = { results := [.lit (.bool true)], args := ds }) (hr : ∀ t ∈ fn.params.toList, Tryd.prog.readableRec t = true ∧ t < Tryd.prog.types.size) (hb : Below W.heap.size W W') :
    s.post enc Tryd.prog fn false true false false W args (.bool true) W' := by
  have hW' := hW
  obtain ⟨p, q, hA, hV, rfl, _, _⟩ := hW
  refine ⟨ds, gs, _, [], p, [], hW', ?_, ?_, ?_, hb.frame _, fun h => by cases h⟩
  · rw [hfn, hres]; exact trodAll_mk1 (shut_bool Tryd.underlying4 true)
  · rw [hfn]; exact trodAll_stays hb hr hA
  · rw [hfn, hv]; rfl

/-- the cells of a block, laid. -/
def laidCells (cs : Array Value) : Obj → Obj
  | .cells _ t frozen => .cells cs t frozen
  | o => o
theorem add_plain (b o i : Nat) : (Addr.mk b o none).add i = ⟨b, o + i, none⟩ := by unfold Addr.add; split <;> simp_all
theorem choose_lt {α : Type} [Inhabited α] {n : Nat} {p : Nat → α → Prop} (h : ∀ i, i < n → ∃ x, p i x) : ∃ q : Nat → α, ∀ i, i < n → p i (q i) := by
  refine ⟨fun i => if hi : i < n then Classical.choose (h i hi) else default, fun i hi => ?_⟩
  simp only [dif_pos hi]
  exact Classical.choose_spec (h i hi)
/-- a world with the listed variables laid as the list says. -/
def laidHeap (w : World) : World :=
  { w with heap := (w.heap.modify 0 (laidCells #[.iface 135 (.agg #[.pointer (some ⟨2, 30, none⟩)])])).modify 1 (laidCells cells16) }
theorem laidHeap_met (os : Os) (args : Array Value) : laidMetH Tryd.prog laidAll ((laidHeap (World.holding Tryd.prog os ⟨#[], #[], []⟩)).forCall (fun _ _ => 0) ⟨#[], args, []⟩).memory :=
  laidMetH_of_parts (laidMet_of_run' 32 (by kernel_rfl) (by kernel_rfl)) (by kernel_rfl)
end Go.Proofs.YtamedcnjanichaaDoor
