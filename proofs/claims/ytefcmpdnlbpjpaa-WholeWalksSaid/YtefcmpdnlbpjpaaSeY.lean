/- search's newFinder and distances. search.From at right arrays and a node of theirs. -/
import Derived.Test.YtefcmpdnlbpjpaaSeX
import Derived.Test.YtefcmpdnlbpjpaaRefBu
import Derived.Test.YtefcmpdnlbpjpaaCsrDc
import Derived.Deep.RegionHeld
namespace Go.Proofs.Ytefcmpdnlbpjpaa
open Go.RowKit Go.Extern

attribute [local go_sem] Oper.semAt_some

set_option maxRecDepth 100000 in
set_option maxHeartbeats 1000000 in
theorem noBounds_calls (w : World) : Calls Try.prog 26 #[] w fun e w' => e = .returned (.agg #[.int .i64 9223372036854775807, .int .i64 9223372036854775807, .int .u64 18446744073709551615]) ∧ Below w.heap.size w w' := by
  have HB : Hid (Below w.heap.size w (w.alloc (.cells #[.int .i64 9223372036854775807, .int .i64 9223372036854775807, .int .u64 18446744073709551615] 68))) := (Below.refl _ w).alloc (Nat.le_refl _) _
  go_enter Try.func26, Try.ntmps26
  go_wp2
  have hN := heap_new w (.cells #[.int .i64 9223372036854775807, .int .i64 9223372036854775807, .int .u64 18446744073709551615] 68)
  generalize w.alloc (.cells #[.int .i64 9223372036854775807, .int .i64 9223372036854775807, .int .u64 18446744073709551615] 68) = W at *
  obtain ⟨c0, c1, c2⟩ := box3 hN
  refine bodyPost_ret (v := .agg #[.int .i64 9223372036854775807, .int .i64 9223372036854775807, .int .u64 18446744073709551615]) (by simp [results, Try.results26, go_sem, c0, c1, c2]) rfl ?_
  exact ⟨rfl, HB.out⟩

set_option maxRecDepth 100000 in
set_option maxHeartbeats 1000000 in
theorem fnodes_calls {B : Nat} {w : World} {n : Nat} {L : FL} {c0 c1 c2 sv : Value} {S : FS} (h : Fnd B w n L c0 c1 c2 sv S) : Calls Try.prog 22 #[.pointer (some ⟨L.fi, 0, none⟩)] w fun e w' => e = .returned (.int .i64 n) ∧ w' = w := by
  obtain ⟨k0, k1, k2, k3, k4, k5, k6⟩ := h.box7
  have kl := h.lts.1
  clear h
  go_enter Try.func22, Try.ntmps22
  go_wp2
  go_ret
  exact ⟨rfl, rfl⟩

/-- what lies there when a finder is made. -/
def fiW (W : World) (n : Nat) (c0 c1 c2 p3 p6 : Value) (k a : Nat) : World := ((W.alloc (.cells (madeCells #[.int .i64 0] n) 3)).alloc (.cells (madeCells #[.int .i64 0] n) 3)).alloc (.cells #[c0, c1, c2, p3, .slice (some ⟨k, 0, none⟩) n n, .slice (some ⟨a, 0, none⟩) n n, p6] 73)
theorem made_row {w : World} {b n : Nat} (h : w.heap[b]? = some (.cells (madeCells #[.int .i64 0] n) 3)) : IntRow w b n (fun _ => 0) := by
  refine ⟨_, h, by simp [madeCells], fun u hu => ?_⟩
  have := toList_madeCells_one (.int .i64 0) n
  rw [← Array.getElem?_toList, this, List.getElem?_replicate, if_pos hu]
theorem fi_made {B : Nat} {W : World} {n : Nat} {c0 c1 c2 : Value} {sb pb hb wb k a : Nat} (hk : (k = W.heap.size ∧ a = W.heap.size + 1) ∨ (k = W.heap.size + 1 ∧ a = W.heap.size)) (hs : St.IsStamp W sb pb n (List.replicate n none)) (hh : Hp.IsHeap W hb wb n (.slice none 0 0) (fun _ => none)) (hB : B ≤ sb ∧ B ≤ pb ∧ B ≤ hb ∧ B ≤ wb) (hn : sb ≠ hb ∧ sb ≠ wb ∧ pb ≠ hb ∧ pb ≠ wb) :
    Fnd B (fiW W n c0 c1 c2 (.pointer (some ⟨sb, 0, none⟩)) (.pointer (some ⟨hb, 0, none⟩)) k a) n ⟨W.heap.size + 2, sb, pb, k, a, hb, wb⟩ c0 c1 c2 (.slice none 0 0) ⟨List.replicate n none, fun _ => 0, fun _ => 0, fun _ => none⟩ ∧ Below W.heap.size W (fiW W n c0 c1 c2 (.pointer (some ⟨sb, 0, none⟩)) (.pointer (some ⟨hb, 0, none⟩)) k a) := by
  have hl1 := hs.lt
  have hl2 := hh.lt
  have hBW : Below W.heap.size W (fiW W n c0 c1 c2 (.pointer (some ⟨sb, 0, none⟩)) (.pointer (some ⟨hb, 0, none⟩)) k a) := by
    unfold fiW
    exact (((Below.refl _ W).alloc (Nat.le_refl _) _).alloc (by simp) _).alloc (by simp; omega) _
  have z1 : (fiW W n c0 c1 c2 (.pointer (some ⟨sb, 0, none⟩)) (.pointer (some ⟨hb, 0, none⟩)) k a).heap[W.heap.size]? = some (.cells (madeCells #[.int .i64 0] n) 3) := by
    unfold fiW
    rw [Below.heap_alloc _ _ _ (by simp; omega), Below.heap_alloc _ _ _ (by simp), heap_new]
  have z2 : (fiW W n c0 c1 c2 (.pointer (some ⟨sb, 0, none⟩)) (.pointer (some ⟨hb, 0, none⟩)) k a).heap[W.heap.size + 1]? = some (.cells (madeCells #[.int .i64 0] n) 3) := by
    unfold fiW
    rw [Below.heap_alloc _ _ _ (by simp)]
    have := heap_new (W.alloc (.cells (madeCells #[.int .i64 0] n) 3)) (.cells (madeCells #[.int .i64 0] n) 3)
    simpa using this
  refine ⟨⟨?_, hs.below hBW, hh.below hBW, ?_, ?_, ?_, ?_, ?_⟩, hBW⟩
  · unfold fiW
    have := heap_new ((W.alloc (.cells (madeCells #[.int .i64 0] n) 3)).alloc (.cells (madeCells #[.int .i64 0] n) 3)) (.cells #[c0, c1, c2, .pointer (some ⟨sb, 0, none⟩), .slice (some ⟨k, 0, none⟩) n n, .slice (some ⟨a, 0, none⟩) n n, .pointer (some ⟨hb, 0, none⟩)] 73)
    simpa using this
  · rcases hk with ⟨rfl, rfl⟩ | ⟨rfl, rfl⟩
    · exact made_row z1
    · exact made_row z2
  · rcases hk with ⟨rfl, rfl⟩ | ⟨rfl, rfl⟩
    · exact made_row z2
    · exact made_row z1
  · constructor <;> simp only <;> omega
  · constructor <;> simp only <;> omega
  · exact ⟨(fun e => by cases e), (fun e => by cases e), (fun e => by cases e), (fun e => by cases e), (fun e => by cases e), fun k e => by cases e⟩

set_option maxRecDepth 100000 in
set_option maxHeartbeats 8000000 in
theorem newFinder_good (n : Nat) (zs : List (Int × Int × Int)) (fo uo wo : Option Addr) (fc tc wc : Nat) (w : World) (hz : Fine n zs) (h : CsrIn w n zs fo uo wo fc tc wc) (no : Option Addr) (nc : Nat) (vs : List Int) (hv : HasInts w (.slice no vs.length nc) vs) (hvl : vs.length ≤ 1000000) (hn : ∀ v ∈ vs, 0 ≤ v ∧ v < (n : Int)) :
    Calls Try.prog 21 #[.agg #[.slice fo (n + 1) fc, .slice uo zs.length tc, .slice wo zs.length wc], .slice no vs.length nc] w fun e w' => ∃ L S, e = .returned (.tuple #[.pointer (some ⟨L.fi, 0, none⟩), .nilIface]) ∧ Fnd w.heap.size w' n L (.slice fo (n + 1) fc) (.slice uo zs.length tc) (.slice wo zs.length wc) (.slice none 0 0) S ∧ Below w.heap.size w w' := by
  obtain ⟨W0, hW0⟩ : ∃ W0, w.alloc (.cells #[.slice fo (n + 1) fc, .slice uo zs.length tc, .slice wo zs.length wc] 27) = W0 := ⟨_, rfl⟩
  have HW0 : Hid (w.alloc (.cells #[.slice fo (n + 1) fc, .slice uo zs.length tc, .slice wo zs.length wc] 27) = W0) := hW0
  have hB0 : Below w.heap.size w W0 := by rw [← hW0]; exact (Below.refl _ w).alloc (Nat.le_refl _) _
  have hbx : W0.heap[w.heap.size]? = some (.cells #[.slice fo (n + 1) fc, .slice uo zs.length tc, .slice wo zs.length wc] 27) := by rw [← hW0]; exact heap_new _ _
  have hN := hz.few
  have HK : Hid (∀ wx, Below W0.heap.size W0 wx → (wx.cell? ⟨w.heap.size, 0, none⟩ = some (.slice fo (n + 1) fc) ∧ wx.cell? ⟨w.heap.size, 1, none⟩ = some (.slice uo zs.length tc) ∧ wx.cell? ⟨w.heap.size, 2, none⟩ = some (.slice wo zs.length wc)) ∧ w.heap.size < wx.heap.size ∧ Below w.heap.size w wx ∧ HasInts wx (.slice no vs.length nc) vs) := fun wx hx => by
    have hg := (hx.block _ (lt_of_get hbx)).trans hbx
    have hb := hB0.trans (hx.mono hB0.size)
    exact ⟨box3 hg, lt_of_get hg, hb, hv.keep hb⟩
  have HCK : Hid (Calls Try.prog 41 #[.agg #[.slice fo (n + 1) fc, .slice uo zs.length tc, .slice wo zs.length wc]] W0 fun e w' => e = .returned .nilIface ∧ Below W0.heap.size W0 w') := check_good n zs fo uo wo fc tc wc W0 hz (h.keep hB0)
  have HN : Hid (type_of% hn) := hn
  have hw : IntKind.i64.wrap ((n : Int) + 1 - 1) = (n : Int) := by rw [IntKind.wrap_i64] <;> omega
  have hw2 : IntKind.i64.wrap (n : Int) = (n : Int) := by rw [IntKind.wrap_i64] <;> omega
  have hmk := run_make_row' (P := Try.prog) 25 3 (.int .i64 0) 8 Try.underlying25 infoJ rfl .i64 .i64 n (by omega) (by omega)
  clear h hW0 hB0 hbx hz hv hn
  go_enter Try.func21, Try.ntmps21
  go_wp2_with fail
  rw [HW0.out]
  refine HCK.out.mono ?_
  rintro e w1 ⟨rfl, hb1⟩
  have HB1 : Hid (Below W0.heap.size W0 w1) := hb1
  clear hb1
  obtain ⟨⟨c0, c1, c2⟩, cs, _, _⟩ := HK.out w1 HB1.out
  go_wp2_with fail
  clear c0 c1 c2 cs
  go_loopw [24] (fun iv wr => ∃ k : Nat, k ≤ vs.length ∧ iv = .int .i64 k ∧ wr = w1) (fun iv _ => vs.length - (intOf iv).toNat)
  case atStart => exact ⟨0, Nat.zero_le _, rfl, rfl⟩
  case round =>
    obtain ⟨k, hk, rfl, rfl⟩ := hrel
    obtain ⟨⟨c0, c1, c2⟩, cs, hbw, hV⟩ := HK.out wr HB1.out
    have HBZ : Hid (Below w.heap.size w wr) := hbw
    clear hbw
    by_cases hlt : k < vs.length
    · obtain ⟨v, hv⟩ : ∃ v, vs[k]? = some v := ⟨vs[k], List.getElem?_eq_getElem hlt⟩
      obtain ⟨b, off, hno, hbl, q0⟩ := hV.at hv
      subst hno
      have i1 : (k : Int) < (vs.length : Int) := by omega
      have i2 : (0 : Int) ≤ (k : Int) := by omega
      obtain ⟨v1, v2⟩ := HN.out v (List.mem_of_getElem? hv)
      have v3 : ¬ v < 0 := by omega
      have v4 : ¬ (n : Int) ≤ v := by omega
      clear hV hv
      go_wp2
      go_roundw
      case rel => exact ⟨k + 1, by omega, by go_num, trivial⟩
      case measure => simp [intOf]; omega
    · clear hV c0 c1 c2 cs
      go_wp2_with fail
      refine (St.new_calls n hN 0 (by omega) (by omega) wr).mono ?_
      rintro e w2 ⟨rfl, hs, hb2⟩
      have H2 : Hid (St.IsStamp w2 (wr.heap.size + 1) wr.heap.size n (List.replicate n none) ∧ Below W0.heap.size W0 w2 ∧ Below wr.heap.size wr w2) := ⟨hs, btr HB1.out hb2, hb2⟩
      clear hs hb2
      go_wp2_with fail
      refine (Hp.new_calls n hN w2).mono ?_
      rintro e w3 ⟨rfl, hs, hb3⟩
      have H3 : Hid (St.IsStamp w3 (wr.heap.size + 1) wr.heap.size n (List.replicate n none) ∧ Hp.IsHeap w3 (w2.heap.size + 1) w2.heap.size n (.slice none 0 0) (fun _ => none) ∧ Below W0.heap.size W0 w3) := ⟨H2.out.1.below hb3, hs, btr H2.out.2.1 hb3⟩
      clear hs hb3
      obtain ⟨⟨c0, c1, c2⟩, cs, _, _⟩ := HK.out w3 H3.out.2.2
      have HE : Hid (∀ k a, (k = w3.heap.size ∧ a = w3.heap.size + 1) ∨ (k = w3.heap.size + 1 ∧ a = w3.heap.size) → ∃ S, Fnd w.heap.size (fiW w3 n (.slice fo (n + 1) fc) (.slice uo zs.length tc) (.slice wo zs.length wc) (.pointer (some ⟨wr.heap.size + 1, 0, none⟩)) (.pointer (some ⟨w2.heap.size + 1, 0, none⟩)) k a) n ⟨w3.heap.size + 2, wr.heap.size + 1, wr.heap.size, k, a, w2.heap.size + 1, w2.heap.size⟩ (.slice fo (n + 1) fc) (.slice uo zs.length tc) (.slice wo zs.length wc) (.slice none 0 0) S ∧ Below w.heap.size w (fiW w3 n (.slice fo (n + 1) fc) (.slice uo zs.length tc) (.slice wo zs.length wc) (.pointer (some ⟨wr.heap.size + 1, 0, none⟩)) (.pointer (some ⟨w2.heap.size + 1, 0, none⟩)) k a)) := fun k a hka => by
        have hs1 := HBZ.out.size
        have hs2 := H2.out.1.lt
        have hs3 := (HK.out w3 H3.out.2.2).2.2.1
        have hs4 := H2.out.2.2.size
        obtain ⟨g1, g2⟩ := fi_made (B := w.heap.size) (c0 := .slice fo (n + 1) fc) (c1 := .slice uo zs.length tc) (c2 := .slice wo zs.length wc) hka H3.out.1 H3.out.2.1 (by omega) (by omega)
        exact ⟨_, g1, btr hs3 g2⟩
      have HKS : Hid (∀ wx, Below w3.heap.size w3 wx → wx.cell? ⟨w.heap.size, 0, none⟩ = some (.slice fo (n + 1) fc) ∧ wx.cell? ⟨w.heap.size, 1, none⟩ = some (.slice uo zs.length tc) ∧ wx.cell? ⟨w.heap.size, 2, none⟩ = some (.slice wo zs.length wc)) := fun wx hx => (HK.out wx (btr H3.out.2.2 hx)).1
      go_wp2_with fail
      go_region_held (fun w' => w'.cell? ⟨w.heap.size, 0, none⟩ = some (.slice fo (n + 1) fc) ∧ w'.cell? ⟨w.heap.size, 1, none⟩ = some (.slice uo zs.length tc) ∧ w'.cell? ⟨w.heap.size, 2, none⟩ = some (.slice wo zs.length wc)) (first | (exact HKS.out _ (by repeat (first | (with_reducible exact Below.refl _ _) | (with_reducible refine Below.drew ?_) | (with_reducible refine Below.alloc ?_ (by simp <;> omega) _))))) (first | fail)
      all_goals
        go_wp2
        go_ret2
      · obtain ⟨S, g1, g2⟩ := HE.out _ _ (Or.inl ⟨rfl, rfl⟩)
        exact ⟨⟨w3.heap.size + 2, wr.heap.size + 1, wr.heap.size, w3.heap.size, w3.heap.size + 1, w2.heap.size + 1, w2.heap.size⟩, S, rfl, g1.keep fun _ _ _ => rfl, g2.drew⟩
      · obtain ⟨S, g1, g2⟩ := HE.out _ _ (Or.inr ⟨rfl, rfl⟩)
        exact ⟨⟨w3.heap.size + 2, wr.heap.size + 1, wr.heap.size, w3.heap.size + 1, w3.heap.size, w2.heap.size + 1, w2.heap.size⟩, S, rfl, g1.keep fun _ _ _ => rfl, g2.drew⟩

/-- a list of numbers of 64 bits in a block of its own. -/
def U64s (w : World) (b : Nat) (D : List Int) : Prop := w.heap[b]? = some (.cells (D.map (Value.int .u64)).toArray 34)
theorem U64s.at {w : World} {b : Nat} {D : List Int} (h : U64s w b D) {k : Nat} {x : Int} (hk : D[k]? = some x) : w.cell? ⟨b, k, none⟩ = some (.int .u64 x) ∧ b < w.heap.size ∧ w.frozen? ⟨b, k, none⟩ = false := by
  refine ⟨?_, lt_of_get h, ?_⟩
  · simp [World.cell?, show w.heap[b]? = _ from h, hk]
  · simp [World.frozen?, show w.heap[b]? = _ from h]
theorem U64s.set {w : World} {b : Nat} {D : List Int} (h : U64s w b D) (k : Nat) (x : Int) : U64s (w.setCell ⟨b, k, none⟩ (.int .u64 x)) b (D.set k x) := by
  unfold U64s
  rw [Go.heap_setCell_same _ _ k _ _ _ h]
  congr 2
  rw [List.setIfInBounds_toArray, List.map_set]
theorem infoU : (Try.prog.info? 34).map (fun i => (i.zero, i.size, i.bytes)) = some (some (.int .u64 0), 1, 8) := by kernel_rfl
theorem made_u64s (w : World) (n : Nat) : U64s (w.alloc (.cells (madeCells #[.int .u64 0] n) 34)) w.heap.size (List.replicate n 0) := by
  unfold U64s
  rw [heap_new]
  congr 2
  have := toList_madeCells_one (.int .u64 0) n
  apply Array.ext'
  rw [this]
  simp
/-- the distances so far. -/
def soFar (n : Nat) (vs : List (Option Int)) (k : Nat) : List Int := (List.range n).map fun v => if v < k then farOr vs[v]? else 0
theorem soFar_len (n : Nat) (vs : List (Option Int)) (k : Nat) : (soFar n vs k).length = n := by simp [soFar]
theorem soFar_zero (n : Nat) (vs : List (Option Int)) : soFar n vs 0 = List.replicate n 0 := by
  apply List.ext_getElem
  · simp [soFar]
  · intro i h1 h2
    simp [soFar]
theorem soFar_at (n : Nat) (vs : List (Option Int)) (k i : Nat) (h : i < (soFar n vs k).length) : (soFar n vs k)[i] = if i < k then farOr vs[i]? else 0 := by simp [soFar]
theorem soFar_next {n : Nat} {vs : List (Option Int)} {k : Nat} : (soFar n vs k).set k (farOr vs[k]?) = soFar n vs (k + 1) := by
  apply List.ext_getElem
  · simp [soFar]
  · intro i h1 h2
    rw [List.getElem_set, soFar_at, soFar_at]
    by_cases e : k = i
    · subst e
      rw [if_pos rfl, if_pos (by omega)]
    · rw [if_neg e]
      by_cases h : i < k
      · rw [if_pos h, if_pos (by omega)]
      · rw [if_neg h, if_neg (by omega)]
theorem soFar_all (n : Nat) (vs : List (Option Int)) : soFar n vs n = (List.range n).map fun v => farOr vs[v]? := by
  unfold soFar
  refine List.map_congr_left fun v hv => ?_
  rw [if_pos (List.mem_range.1 hv)]

set_option maxRecDepth 100000 in
set_option maxHeartbeats 8000000 in
theorem distances_calls {B : Nat} {w : World} {n : Nat} {L : FL} {fo uo wo : Option Addr} {fc tc wc : Nat} {zs : List (Int × Int × Int)} {sv : Value} {S : FS} (hF : Fnd B w n L (.slice fo (n + 1) fc) (.slice uo zs.length tc) (.slice wo zs.length wc) sv S) (hB : B ≤ w.heap.size) (hz : Fine n zs) (hC : ∀ wx, Below B w wx → CsrIn wx n zs fo uo wo fc tc wc) (s : Nat) (hs : s < n) :
    Calls Try.prog 23 #[.pointer (some ⟨L.fi, 0, none⟩), .int .i64 s] w fun e w' => ∃ db D sv' S', e = .returned (.slice (some ⟨db, 0, none⟩) n n) ∧ IsDist n zs s D ∧ (U64s w' db D ∧ w.heap.size ≤ db ∧ Fx L sv sv' w w' ∧ sv'.ownBlock ≠ some db) ∧ Fnd B w' n L (.slice fo (n + 1) fc) (.slice uo zs.length tc) (.slice wo zs.length wc) sv' S' ∧ Below B w w' := by
  have hn := hz.few
  have hmk := run_make_row' (P := Try.prog) 44 34 (.int .u64 0) 8 Try.underlying44 infoU rfl .i64 .i64 n (by omega) (by omega)
  have HZ : Hid (Fine n zs) := hz
  have HF : Hid (Fnd B w n L (.slice fo (n + 1) fc) (.slice uo zs.length tc) (.slice wo zs.length wc) sv S) := hF
  have HC : Hid (type_of% hC) := hC
  clear hF hC hz
  go_enter Try.func23, Try.ntmps23
  go_wp2_with fail
  refine (noBounds_calls w).mono ?_
  rintro e w1 ⟨rfl, hb1⟩
  have H1 : Hid (Fnd B w1 n L (.slice fo (n + 1) fc) (.slice uo zs.length tc) (.slice wo zs.length wc) sv S ∧ Below B w w1 ∧ B ≤ w1.heap.size) := ⟨HF.out.below hb1, hb1.mono hB, Nat.le_trans hB hb1.size⟩
  have hs1 : w.heap.size ≤ w1.heap.size := hb1.size
  have HX1 : Hid (Fx L sv sv w w1) := Fx.of_below hb1
  clear hb1
  go_wp2_with fail
  refine (run_calls H1.out.1 H1.out.2.2 HZ.out (fun wx hx => HC.out wx (H1.out.2.1.trans hx)) s hs _ _ _).mono ?_
  rintro e w2 ⟨rfl, ⟨sv2, t, S2, h1, h2, h3, h4⟩, hb2⟩
  have H2 : Hid (Fnd B w2 n L (.slice fo (n + 1) fc) (.slice uo zs.length tc) (.slice wo zs.length wc) sv2 S2 ∧ Below B w w2) := ⟨h1, H1.out.2.1.trans hb2⟩
  have hs2 : w.heap.size ≤ w2.heap.size := Nat.le_trans hs1 hb2.size
  have HX2 : Hid (Fx L sv sv2 w w2) := HX1.out.trans h2
  have HD : Hid (IsDist n zs s ((List.range n).map fun v => farOr S2.vs[v]?)) := by
    have hI0 : SInv n zs 9223372036854775807 s 0 (S.begin n s) := start_inv hs _ rfl rfl
    have hI := steps_inv HZ.out hI0 t S2 h3
    have ht := steps_le HZ.out hI0 h3
    refine hI.dist HZ.out ht (by omega) ?_
    rcases h4 with h | h | ⟨v, k, hL, h⟩
    · omega
    · exact h.1
    · obtain ⟨a1, a2, a3, a4, a5⟩ := hI.lab v k (hI.opn v k hL.1 hL.2.1)
      omega
  have HVL : Hid (S2.vs.length = n) := h1.st.lt.2.2.2.1
  clear h1 h2 h3 h4 hb2 H1 hs1
  go_wp2_with fail
  refine (fnodes_calls H2.out.1).mono ?_
  rintro e w3 ⟨rfl, rfl⟩
  go_wp2_with fail
  obtain ⟨W, hW⟩ : ∃ W, w3.alloc (.cells (madeCells #[.int .u64 0] n) 34) = W := ⟨_, rfl⟩
  have HW : Hid (w3.alloc (.cells (madeCells #[.int .u64 0] n) 34) = W) := hW
  have H4 : Hid (Below w3.heap.size w3 W ∧ U64s W w3.heap.size (soFar n S2.vs 0)) := ⟨by rw [← hW]; exact (Below.refl _ _).alloc (Nat.le_refl _) _, by rw [← hW, soFar_zero]; exact made_u64s w3 n⟩
  rw [HW.out]
  clear hW
  generalize hdb : w3.heap.size = db at *
  have HDB : Hid (w3.heap.size = db) := hdb
  have hdl : w.heap.size ≤ db := by omega
  clear hdb
  go_loopw [18] (fun iv wr => ∃ k : Nat, k ≤ n ∧ iv = .int .i64 k ∧ Below db w3 wr ∧ U64s wr db (soFar n S2.vs k)) (fun iv _ => n - (intOf iv).toNat)
  case atStart => exact ⟨0, by omega, rfl, H4.out.1, H4.out.2⟩
  case round =>
    obtain ⟨k, hk, rfl, hb, hU⟩ := hrel
    have G : Hid (Fnd B wr n L (.slice fo (n + 1) fc) (.slice uo zs.length tc) (.slice wo zs.length wc) sv2 S2 ∧ Below db w3 wr ∧ U64s wr db (soFar n S2.vs k)) := ⟨H2.out.1.keep fun j hj _ => hb.block j (by rw [← HDB.out]; exact hj), hb, hU⟩
    clear hb hU
    by_cases hlt : k < n
    · obtain ⟨o, ho⟩ : ∃ o, S2.vs[k]? = some o := ⟨S2.vs[k]'(by rw [HVL.out]; exact hlt), List.getElem?_eq_getElem _⟩
      have k3 : wr.cell? ⟨L.fi, 3, none⟩ = some (.pointer (some ⟨L.sb, 0, none⟩)) := G.out.1.box7.2.2.2.1
      have kl := G.out.1.lts.1
      have HO : Hid (S2.vs[k]? = some o) := ho
      have i1 : (k : Int) < (n : Int) := by omega
      have i2 : (0 : Int) ≤ (k : Int) := by omega
      clear ho
      go_wp2_with fail
      refine (St.get_in G.out.1.st k o HO.out).mono ?_
      rintro e w5 ⟨rfl, hb5⟩
      have G5 : Hid (Below db w3 w5 ∧ U64s w5 db (soFar n S2.vs k)) := ⟨G.out.2.1.trans (hb5.mono (Nat.le_trans (by rw [HDB.out]; exact Nat.le_refl _) G.out.2.1.size)), (hb5.block _ (lt_of_get G.out.2.2)).trans G.out.2.2⟩
      clear hb5 k3 kl
      obtain ⟨x, hx⟩ : ∃ x, (soFar n S2.vs k)[k]? = some x := ⟨(soFar n S2.vs k)[k]'(by rw [soFar_len]; exact hlt), List.getElem?_eq_getElem _⟩
      obtain ⟨c1, c2, c3⟩ := G5.out.2.at hx
      have HNX : Hid (∀ d, farOr S2.vs[k]? = d → Below db w3 (w5.setCell ⟨db, k, none⟩ (.int .u64 d)) ∧ U64s (w5.setCell ⟨db, k, none⟩ (.int .u64 d)) db (soFar n S2.vs (k + 1))) := fun d hd => ⟨G5.out.1.setCell (Nat.le_refl _) _, by rw [← soFar_next, hd]; exact G5.out.2.set k d⟩
      clear hx
      cases o with
      | none =>
        simp only [St.gotV]
        go_wp2
        go_roundw
        case rel => exact ⟨k + 1, by omega, by go_num, HNX.out _ (by rw [HO.out]; rfl)⟩
        case measure => simp [intOf]; omega
      | some d =>
        simp only [St.gotV]
        go_wp2
        go_roundw
        case rel => exact ⟨k + 1, by omega, by go_num, HNX.out _ (by rw [HO.out]; rfl)⟩
        case measure => simp [intOf]; omega
    · obtain rfl : k = n := by omega
      have HEND : Hid (Fnd B wr k L (.slice fo (k + 1) fc) (.slice uo zs.length tc) (.slice wo zs.length wc) sv2 S2 ∧ U64s wr db ((List.range k).map fun v => farOr S2.vs[v]?) ∧ Below B w wr) := by
        refine ⟨G.out.1, by rw [← soFar_all]; exact G.out.2.2, H2.out.2.trans (G.out.2.1.mono ?_)⟩
        exact Nat.le_trans hB hs2
      go_wp2
      go_ret
      exact ⟨_, _, sv2, S2, rfl, HD.out, ⟨HEND.out.2.1, hdl, HX2.out.trans (Fx.of_below (G.out.2.1.mono (by rw [HDB.out]; exact Nat.le_refl _))), fun e => by
        obtain ⟨ps, wh, hM, _⟩ := H2.out.1.hp
        have h := hM.row.lt db e
        have h2 := HDB.out
        omega⟩, HEND.out.1, HEND.out.2.2⟩
end Go.Proofs.Ytefcmpdnlbpjpaa

namespace Go.Proofs.Ytefcmpdnlbpjpaa
open Go.RowKit Go.Extern

attribute [local go_sem] Oper.semAt_some

theorem ints_one (w : World) (x : Int) : HasInts (w.alloc (.cells #[.int .i64 x] 3)) (.slice (some ⟨w.heap.size, 0, none⟩) 1 1) [x] := by
  have h := heap_new w (.cells #[.int .i64 x] 3)
  have hl := lt_of_get h
  generalize w.alloc (.cells #[.int .i64 x] 3) = W at *
  refine ⟨_, _, rfl, fun j a hj => ?_⟩
  rcases j with _ | j
  · cases hj
    exact ⟨_, _, rfl, hl, by simp [World.cell?, h]⟩
  · simp at hj

set_option maxRecDepth 100000 in
set_option maxHeartbeats 4000000 in
theorem from_new (n : Nat) (zs : List (Int × Int × Int)) (fo uo wo : Option Addr) (fc tc wc : Nat) (w : World) (hz : Fine n zs) (h : CsrIn w n zs fo uo wo fc tc wc) (s : Nat) (hs : s < n) :
    Calls Try.prog 31 #[.agg #[.slice fo (n + 1) fc, .slice uo zs.length tc, .slice wo zs.length wc], .int .i64 s] w fun e w' => ∃ db D, e = .returned (.tuple #[.slice (some ⟨db, 0, none⟩) n n, .nilIface]) ∧ IsDist n zs s D ∧ (U64s w' db D ∧ w.heap.size ≤ db) ∧ Below w.heap.size w w' := by
  obtain ⟨W0, hW0⟩ : ∃ W0, (w.alloc (.cells #[.slice fo (n + 1) fc, .slice uo zs.length tc, .slice wo zs.length wc] 27)).alloc (.cells #[.int .i64 s] 3) = W0 := ⟨_, rfl⟩
  have HW0 : Hid ((w.alloc (.cells #[.slice fo (n + 1) fc, .slice uo zs.length tc, .slice wo zs.length wc] 27)).alloc (.cells #[.int .i64 s] 3) = W0) := hW0
  have hB0 : Below w.heap.size w W0 := by rw [← hW0]; exact ((Below.refl _ w).alloc (Nat.le_refl _) _).alloc (by simp) _
  have hI : HasInts W0 (.slice (some ⟨w.heap.size + 1, 0, none⟩) 1 1) [(s : Int)] := by
    have := ints_one (w.alloc (.cells #[.slice fo (n + 1) fc, .slice uo zs.length tc, .slice wo zs.length wc] 27)) (s : Int)
    rw [hW0] at this
    simpa using this
  have HC : Hid (∀ wx, Below w.heap.size w wx → CsrIn wx n zs fo uo wo fc tc wc) := fun wx hb => h.keep hb
  have HNF : Hid (Calls Try.prog 21 #[.agg #[.slice fo (n + 1) fc, .slice uo zs.length tc, .slice wo zs.length wc], .slice (some ⟨w.heap.size + 1, 0, none⟩) 1 1] W0 fun e w' => ∃ L S, e = .returned (.tuple #[.pointer (some ⟨L.fi, 0, none⟩), .nilIface]) ∧ Fnd W0.heap.size w' n L (.slice fo (n + 1) fc) (.slice uo zs.length tc) (.slice wo zs.length wc) (.slice none 0 0) S ∧ Below W0.heap.size W0 w') := newFinder_good n zs fo uo wo fc tc wc W0 hz (h.keep hB0) (some ⟨w.heap.size + 1, 0, none⟩) 1 [(s : Int)] hI (by simp) (fun v hv => by simp at hv; subst hv; omega)
  have HZ : Hid (Fine n zs) := hz
  have HB0 : Hid (Below w.heap.size w W0) := hB0
  clear hW0 hB0 hI h hz
  go_enter Try.func31, Try.ntmps31
  go_wp2_with fail
  rw [HW0.out]
  refine HNF.out.mono ?_
  rintro e w1 ⟨L, S, rfl, hF, hb1⟩
  have H1 : Hid (Fnd W0.heap.size w1 n L (.slice fo (n + 1) fc) (.slice uo zs.length tc) (.slice wo zs.length wc) (.slice none 0 0) S ∧ Below W0.heap.size W0 w1) := ⟨hF, hb1⟩
  clear hF hb1
  go_wp2_with fail
  refine (distances_calls H1.out.1 H1.out.2.size HZ.out (fun wx hx => HC.out wx (btr HB0.out (H1.out.2.trans hx))) s hs).mono ?_
  rintro e w2 ⟨db, D, sv2, S2, rfl, hD, hU, _, hb2⟩
  have H2 : Hid (IsDist n zs s D ∧ (U64s w2 db D ∧ w.heap.size ≤ db) ∧ Below w.heap.size w w2) := ⟨hD, ⟨hU.1, Nat.le_trans (btr HB0.out H1.out.2).size hU.2.1⟩, btr HB0.out (H1.out.2.trans hb2)⟩
  clear hD hU hb2
  go_wp2
  go_ret2
  exact ⟨_, _, rfl, H2.out.1, H2.out.2.1, H2.out.2.2⟩
theorem from_good (n : Nat) (zs : List (Int × Int × Int)) (fo uo wo : Option Addr) (fc tc wc : Nat) (w : World) (hz : Fine n zs) (h : CsrIn w n zs fo uo wo fc tc wc) (s : Nat) (hs : s < n) :
    Calls Try.prog 31 #[.agg #[.slice fo (n + 1) fc, .slice uo zs.length tc, .slice wo zs.length wc], .int .i64 s] w fun e w' => ∃ db D, e = .returned (.tuple #[.slice (some ⟨db, 0, none⟩) n n, .nilIface]) ∧ IsDist n zs s D ∧ U64s w' db D ∧ Below w.heap.size w w' := by
  refine (from_new n zs fo uo wo fc tc wc w hz h s hs).mono ?_
  rintro e w' ⟨db, D, h1, h2, h3, h4⟩
  exact ⟨db, D, h1, h2, h3.1, h4⟩
end Go.Proofs.Ytefcmpdnlbpjpaa
