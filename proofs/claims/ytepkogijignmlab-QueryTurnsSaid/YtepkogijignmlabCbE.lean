/- climber.stall. -/
import Derived.Test.YtepkogijignmlabCbD
import Derived.Test.YtepkogijignmlabHrZ
import Derived.Deep.RegionHeld3
namespace Go.Proofs.Ytepkogijignmlab.Cb
open Go.RowKit Go.Extern Go.Shelf Hi

attribute [local go_sem] Oper.semAt_some

theorem run_out (row : Nat → List Lk) : ∀ (m r : Nat) (vs : List (Option Int)) (out : List (Nat × Int)), ∀ x ∈ (run row m r vs out).2, x ∈ out ∨ x.1 < r + m
  | 0, r, vs, out, x, hx => Or.inl hx
  | m + 1, r, vs, out, x, hx => by
    rw [run] at hx
    split at hx
    · rcases run_out row m (r + 1) _ _ x hx with h | h
      · rcases List.mem_append.1 h with h | h
        · exact Or.inl h
        · simp at h
          subst h
          right
          show r < r + (m + 1)
          omega
      · right; omega
    · rcases run_out row m (r + 1) _ _ x hx with h | h
      · exact Or.inl h
      · right; omega
/-- a rank that was reached, with whether it is stalled. -/
def stl (vs : List (Option Int)) (back : Nat → List Lk) (x : Nat × Int) : Nat × Int × Bool := (x.1, x.2, stalled vs (back x.1) x.2)
/-- the list when i of them are asked. -/
def stK (vs : List (Option Int)) (back : Nat → List Lk) (i : Nat) (out : List (Nat × Int)) : List (Nat × Int × Bool) := (out.take i).map (stl vs back) ++ (out.drop i).map nos
theorem stK_len (vs : List (Option Int)) (back : Nat → List Lk) (i : Nat) (out : List (Nat × Int)) : (stK vs back i out).length = out.length := by simp [stK]; omega
theorem stK_get {vs : List (Option Int)} {back : Nat → List Lk} {i : Nat} {out : List (Nat × Int)} {x : Nat × Int} (h : out[i]? = some x) : (stK vs back i out)[i]? = some (x.1, x.2, false) := by
  have hi := (List.getElem?_eq_some_iff.1 h).1
  unfold stK
  rw [List.getElem?_append_right (by simp; omega), List.getElem?_map, List.getElem?_drop, List.length_map, List.length_take, Nat.min_eq_left (by omega), Nat.sub_self, Nat.add_zero, h]
  rfl
theorem stK_step {vs : List (Option Int)} {back : Nat → List Lk} {i : Nat} {out : List (Nat × Int)} {x : Nat × Int} (h : out[i]? = some x) : stK vs back (i + 1) out = (stK vs back i out).set i (stl vs back x) := by
  have hk := (List.getElem?_eq_some_iff.1 h).1
  apply List.ext_getElem?
  intro k
  unfold stK
  rw [List.take_add_one, h]
  rcases Nat.lt_trichotomy k i with h1 | h1 | h1
  · rw [List.getElem?_set_ne (by omega), List.getElem?_append_left (by simp; omega), List.getElem?_append_left (by simp; omega), List.map_append, List.getElem?_append_left (by simp; omega)]
  · subst h1
    rw [List.getElem?_set_self (by simp; omega), List.getElem?_append_left (by simp; omega), List.map_append, List.getElem?_append_right (by simp; omega)]
    simp [Nat.min_eq_left (Nat.le_of_lt hk)]
  · rw [List.getElem?_set_ne (by omega), List.getElem?_append_right (by simp; omega), List.getElem?_append_right (by simp; omega), List.getElem?_map, List.getElem?_map, List.getElem?_drop, List.getElem?_drop]
    simp
    congr 2
    omega
theorem stK_all (vs : List (Option Int)) (back : Nat → List Lk) (out : List (Nat × Int)) : stK vs back out.length out = out.map (stl vs back) := by simp [stK]
theorem stK_zero (vs : List (Option Int)) (back : Nat → List Lk) (out : List (Nat × Int)) : stK vs back 0 out = out.map nos := by simp [stK]
theorem set_self {α : Type} {l : List α} {i : Nat} {x : α} (h : l[i]? = some x) : l.set i x = l := by
  apply List.ext_getElem?
  intro k
  by_cases e : i = k
  · subst e; rw [List.getElem?_set_self (List.getElem?_eq_some_iff.1 h).1, h]
  · rw [List.getElem?_set_ne e]
theorem snv_get : ∀ (l : List (Nat × Int × Bool)) (i : Nat) (a : Nat × Int × Bool), l[i]? = some a → (snv l)[i * 3]? = some (.int .i64 (a.1 : Int)) ∧ (snv l)[i * 3 + 1]? = some (.int .u64 a.2.1) ∧ (snv l)[i * 3 + 2]? = some (.bool a.2.2)
  | [], i, a, h => by simp at h
  | b :: r, 0, a, h => by
    simp at h
    subst h
    simp [snv]
  | b :: r, i + 1, a, h => by
    have ih := snv_get r i a (by simpa using h)
    have e : snv (b :: r) = [.int .i64 (b.1 : Int), .int .u64 b.2.1, .bool b.2.2] ++ snv r := by simp [snv]
    rw [e]
    refine ⟨?_, ?_, ?_⟩
    · rw [List.getElem?_append_right (by simp; omega), show (i + 1) * 3 - ([.int .i64 (b.1 : Int), .int .u64 b.2.1, .bool b.2.2] : List Value).length = i * 3 by simp; omega]; exact ih.1
    · rw [List.getElem?_append_right (by simp; omega), show (i + 1) * 3 + 1 - ([.int .i64 (b.1 : Int), .int .u64 b.2.1, .bool b.2.2] : List Value).length = i * 3 + 1 by simp; omega]; exact ih.2.1
    · rw [List.getElem?_append_right (by simp; omega), show (i + 1) * 3 + 2 - ([.int .i64 (b.1 : Int), .int .u64 b.2.1, .bool b.2.2] : List Value).length = i * 3 + 2 by simp; omega]; exact ih.2.2
theorem snv_set : ∀ (l : List (Nat × Int × Bool)) (i : Nat) (a : Nat × Int × Bool) (b : Bool), l[i]? = some a → (snv l).set (i * 3 + 2) (.bool b) = snv (l.set i (a.1, a.2.1, b))
  | [], i, a, b, h => by simp at h
  | c :: r, 0, a, b, h => by
    simp at h
    subst h
    simp [snv]
  | c :: r, i + 1, a, b, h => by
    have ih := snv_set r i a b (by simpa using h)
    have e : ∀ r, snv (c :: r) = [.int .i64 (c.1 : Int), .int .u64 c.2.1, .bool c.2.2] ++ snv r := fun r => by simp [snv]
    rw [List.set_cons_succ, e, e, ← ih, List.set_append_right _ _ (by simp; omega)]
    congr 2
    simp
    omega
/-- does this link stall? -/
def hits (vs : List (Option Int)) (d : Int) (l : Lk) : Bool := match vs[l.hd]? with
  | some (some a) => decide (a + l.wt < d)
  | _ => false
theorem stalled_any (vs : List (Option Int)) (row : List Lk) (d : Int) : stalled vs row d = row.any (hits vs d) := rfl
/-- while a rank's links back are gone through. -/
structure SL (B : Nat) (w : World) (n : Nat) (L : CP) (sv : Value) (vs : List (Option Int)) (f : Int → Option Int) (z : Nat) (cs : Array Value) (so : Option Addr) (sc m : Nat) (lst : List (Nat × Int × Bool)) (wr : World) : Prop where
  clm : Clm B wr n L sv vs f
  own : wr.ownsRow B 91 3 (.slice so m sc) m (snv lst)
  box : wr.heap[z]? = some (.cells cs 89)
  bel : Below B w wr
variable {B : Nat} {w wr : World} {n : Nat} {L : CP} {z : Nat} {cs : Array Value} {vs : List (Option Int)} {sv : Value} {f : Int → Option Int} {so : Option Addr} {sc m : Nat} {lst : List (Nat × Int × Bool)}
theorem SL.below {wn : World} (h : SL B w n L sv vs f z cs so sc m lst wr) (hb : Below wr.heap.size wr wn) (hB : B ≤ w.heap.size) : SL B w n L sv vs f z cs so sc m lst wn :=
  ⟨h.clm.below hb, own_keep h.own fun k _ _ hh => (hb.block k (some_lt hh)).trans hh, (hb.block _ (some_lt h.box)).trans h.box, h.bel.trans (hb.mono (Nat.le_trans hB h.bel.size))⟩
/-- a flag is set. -/
theorem SL.flag {g : Nat} (h : SL B w n L sv vs f z cs (some ⟨g, 0, none⟩) sc m lst wr) {i : Nat} {a : Nat × Int × Bool} (hi : lst[i]? = some a) : SL B w n L sv vs f z cs (some ⟨g, 0, none⟩) sc m (lst.set i (a.1, a.2.1, true)) (wr.setCell ⟨g, i * 3 + 2, none⟩ (.bool true)) := by
  obtain ⟨hg1, hg2⟩ := h.own.lt g rfl
  have hoff := h.clm.offRow h.own g rfl
  have far : ∀ k, k ≠ g → (wr.setCell ⟨g, i * 3 + 2, none⟩ (.bool true)).heap[k]? = wr.heap[k]? := fun k hk => Below.heap_setCell _ _ _ _ hk
  refine ⟨h.clm.keep fun k _ ho => far k (fun e => hoff (e ▸ ho)), ?_, ?_, h.bel.setCell hg1 _⟩
  · have := (h.own.stored (i * 3 + 2) (.bool true)).1
    rw [snv_set lst i a true hi] at this
    exact this
  · refine (far z (fun e => ?_)).trans h.box
    have hb := h.box
    rw [e] at hb
    rcases h.own.2 with ⟨e1, _⟩ | ⟨g', cap, cur, e1, _, hh, _⟩
    · cases e1
    · cases e1
      rw [hh] at hb
      simp at hb

theorem three_cells {w : World} {b : Nat} {T : TypeId} {a0 a1 a2 : Value} (h : w.heap[b]? = some (.cells #[a0, a1, a2] T)) : w.cell? ⟨b, 0, none⟩ = some a0 ∧ w.cell? ⟨b, 1, none⟩ = some a1 ∧ w.cell? ⟨b, 2, none⟩ = some a2 := by simp [World.cell?, h]
theorem sl_box {a0 a1 : Value} (h : SL B w n L sv vs f z #[a0, a1] so sc m lst wr) : wr.cell? ⟨z, 0, none⟩ = some a0 ∧ wr.cell? ⟨z, 1, none⟩ = some a1 := by simp [World.cell?, h.box]
theorem bdrew {B : Nat} {w w' : World} (h : Below B w w') (k : Nat) : Below B w (w'.drewN k) := ⟨h.os, h.tape, h.output, h.size, h.block⟩

set_option maxRecDepth 100000 in
set_option maxHeartbeats 4000000 in
theorem stall_calls (fo lo : Option Addr) (fc lc : Nat) (F : List Nat) (Ls : List Lk) (out : List (Nat × Int)) (h : Clm B w n L sv vs f) (hB : B ≤ w.heap.size) (ho : w.ownsRow B 91 3 (.slice so out.length sc) out.length (snv (out.map nos))) (hout : ∀ x ∈ out, x.1 < n) (hlen : out.length ≤ 65536) (hlow : Low vs) (hn : n ≤ 65536) (hF : FOk F Ls.length) (hFn : F.length = n + 1) (hLs : Ls.length ≤ 1048576) (hM : ∀ wx, Below B w wx → HasWs wx (.slice fo F.length fc) F ∧ HasLs wx (.slice lo Ls.length lc) Ls) (hrow : ∀ r, r < n → ∀ l ∈ rowL F Ls r, r < l.hd ∧ l.hd < n ∧ l.wt ≤ 140737488355328) :
    Calls Try.prog 38 #[.pointer (some ⟨L.ci, 0, none⟩), .slice so out.length sc, .agg #[.slice fo F.length fc, .slice lo Ls.length lc]] w fun e w' => e = .returned (.tuple #[]) ∧ w'.ownsRow B 91 3 (.slice so out.length sc) out.length (snv (out.map (stl vs (rowL F Ls)))) ∧ Below B w w' := by
  obtain ⟨z, hz⟩ : ∃ z, w.heap.size = z := ⟨_, rfl⟩
  obtain ⟨W0, hW0⟩ : ∃ W0, w.alloc (.cells #[.slice fo F.length fc, .slice lo Ls.length lc] 89) = W0 := ⟨_, rfl⟩
  have hb0 : Below w.heap.size w W0 := by rw [← hW0]; exact (Below.refl _ _).alloc (Nat.le_refl _) _
  have g1 : W0.heap[z]? = some (.cells #[.slice fo F.length fc, .slice lo Ls.length lc] 89) := by rw [← hW0, ← hz]; exact heap_newW _ _
  have HS0 : Hid (SL B w n L sv vs f z #[.slice fo F.length fc, .slice lo Ls.length lc] so sc out.length (stK vs (rowL F Ls) 0 out) W0) := by
    show SL _ _ _ _ _ _ _ _ _ _ _ _ _ _
    rw [stK_zero]
    exact ⟨h.below hb0, own_keep ho fun k _ _ hh => (hb0.block k (some_lt hh)).trans hh, g1, hb0.mono hB⟩
  have HM : Hid (∀ wx, Below B w wx → HasWs wx (.slice fo F.length fc) F ∧ HasLs wx (.slice lo Ls.length lc) Ls) := hM
  have HF : Hid (FOk F Ls.length ∧ F.length = n + 1 ∧ Ls.length ≤ 1048576) := ⟨hF, hFn, hLs⟩
  have HRW : Hid (∀ r, r < n → ∀ l ∈ rowL F Ls r, r < l.hd ∧ l.hd < n ∧ l.wt ≤ 140737488355328) := hrow
  have HB : Hid (B ≤ w.heap.size) := hB
  have HO : Hid (∀ x ∈ out, x.1 < n) := hout
  have HLOW : Hid (Low vs) := hlow
  have HW0 : Hid (w.alloc (.cells #[.slice fo F.length fc, .slice lo Ls.length lc] 89) = W0) := hW0
  clear hb0 g1 h hB ho hout hlow hF hFn hLs hM hrow hW0
  go_enter Try.func38, Try.ntmps38
  go_wp2_with fail
  rw [HW0.out]
  go_loopw [14] (fun iv wr => ∃ i : Nat, i ≤ out.length ∧ iv = .int .i64 i ∧ Hid (SL B w n L sv vs f z #[.slice fo F.length fc, .slice lo Ls.length lc] so sc out.length (stK vs (rowL F Ls) i out) wr)) (fun iv _ => out.length - (intOf iv).toNat)
  case atStart => exact ⟨0, Nat.zero_le _, rfl, HS0.out⟩
  case round =>
    obtain ⟨i, hi, rfl, HS⟩ := hrel
    rcases Nat.lt_or_eq_of_le hi with h1 | h1
    · obtain ⟨⟨x, d⟩, hx⟩ : ∃ x, out[i]? = some x := ⟨out[i], List.getElem?_eq_getElem h1⟩
      have hxn := HO.out _ (List.mem_of_getElem? hx)
      have HK : Hid ((stK vs (rowL F Ls) i out)[i]? = some (x, d, false)) := stK_get hx
      have HST : Hid (stK vs (rowL F Ls) (i + 1) out = (stK vs (rowL F Ls) i out).set i (x, d, stalled vs (rowL F Ls x) d)) := stK_step hx
      obtain ⟨g, hg⟩ : ∃ g, so = some ⟨g, 0, none⟩ := by
        rcases HS.out.own.2 with ⟨e1, _⟩ | ⟨g, cap, cur, e1, _⟩
        · simp at e1; omega
        · simp at e1; exact ⟨g, e1.1⟩
      subst hg
      obtain ⟨s0, s1, s2⟩ := snv_get _ i _ HK.out
      have c0 := (HS.out.own.cellAt (i * 3) (by omega)).trans s0
      have c1 := (HS.out.own.cellAt (i * 3 + 1) (by omega)).trans s1
      have c2 := (HS.out.own.cellAt (i * 3 + 2) (by omega)).trans s2
      have i1 : (i : Int) < (out.length : Int) := by omega
      have i2 : (0 : Int) ≤ (i : Int) := by omega
      have i3 : IntKind.u32.wrap (x : Int) = (x : Int) := by rw [IntKind.wrap_u32]; omega
      have hg2 := (HS.out.own.lt g rfl).2
      clear hx s0 s1 s2
      go_upto_region 4 with fail
      obtain ⟨y, hy⟩ : ∃ y, wr.heap.size = y := ⟨_, rfl⟩
      obtain ⟨W1, hW1⟩ : ∃ W1, wr.alloc (.cells #[.int .i64 (x : Int), .int .u64 d, .bool false] 91) = W1 := ⟨_, rfl⟩
      have HS1 : Hid (SL B w n L sv vs f z #[.slice fo F.length fc, .slice lo Ls.length lc] (some ⟨g, 0, none⟩) sc out.length (stK vs (rowL F Ls) i out) W1 ∧ W1.heap[y]? = some (.cells #[.int .i64 (x : Int), .int .u64 d, .bool false] 91)) := by
        constructor
        · rw [← hW1]; exact HS.out.below ((Below.refl _ _).alloc (Nat.le_refl _) _) HB.out
        · rw [← hW1, ← hy]; exact heap_newW _ _
      have hgy : g ≠ y := by omega
      have hyg : y ≠ g := hgy.symm
      rw [hW1, hy]
      clear hy hW1 c0 c1 c2 hg2 HS
      obtain ⟨e0, e1, e2⟩ := three_cells HS1.out.2
      obtain ⟨d0, d1⟩ := sl_box HS1.out.1
      have HAT : Hid (Calls Try.prog 44 #[.agg #[.slice fo F.length fc, .slice lo Ls.length lc], .int .u32 (x : Int)] W1 fun e w' => ∃ so c, e = .returned (.slice so (rowL F Ls x).length c) ∧ (∀ wx, HasLs wx (.slice lo Ls.length lc) Ls → HasLs wx (.slice so (rowL F Ls x).length c) (rowL F Ls x)) ∧ Below W1.heap.size W1 w') := at_calls fo lo fc lc F Ls x W1 HF.out.1 (by have := HF.out.2.1; omega) (by have := HF.out.2.1; omega) (HM.out W1 HS1.out.1.bel).1 (HM.out W1 HS1.out.1.bel).2
      go_wp2_with fail
      refine HAT.out.mono ?_
      rintro e w6 ⟨ro, rc, rfl, hX, hb6⟩
      have HX : Hid (∀ wx, HasLs wx (.slice lo Ls.length lc) Ls → HasLs wx (.slice ro (rowL F Ls x).length rc) (rowL F Ls x)) := hX
      have HLL : Hid (∀ (j : Nat) (l : Lk), (rowL F Ls x)[j]? = some l → x < l.hd ∧ l.hd < n ∧ l.wt ≤ 140737488355328) := fun j l hj => HRW.out x hxn l (List.mem_of_getElem? hj)
      have hm9 : (rowL F Ls x).length ≤ 1048576 := by
        have := HF.out.2.2
        have h2 : (rowL F Ls x).length ≤ Ls.length := by unfold rowL; rw [List.length_take, List.length_drop]; omega
        omega
      have HS6 : Hid (SL B w n L sv vs f z #[.slice fo F.length fc, .slice lo Ls.length lc] (some ⟨g, 0, none⟩) sc out.length ((stK vs (rowL F Ls) i out).set i (x, d, ((rowL F Ls x).take 0).any (hits vs d))) w6 ∧ w6.heap[y]? = some (.cells #[.int .i64 (x : Int), .int .u64 d, .bool false] 91)) := by
        have e : (stK vs (rowL F Ls) i out).set i (x, d, ((rowL F Ls x).take 0).any (hits vs d)) = stK vs (rowL F Ls) i out := set_self HK.out
        constructor
        · rw [e]; exact HS1.out.1.below hb6 HB.out
        · exact (hb6.block _ (some_lt HS1.out.2)).trans HS1.out.2
      rw [stalled_any] at HST
      obtain ⟨Rw, hRw⟩ : ∃ Rw, rowL F Ls x = Rw := ⟨_, rfl⟩
      obtain ⟨K0, hK0⟩ : ∃ K0, stK vs (rowL F Ls) i out = K0 := ⟨_, rfl⟩
      have hKl : K0.length = out.length := by rw [← hK0]; exact stK_len _ _ _ _
      rw [hK0] at HS6 HST HK
      rw [hRw] at HX HLL hm9 HS6 HST ⊢
      clear hX hb6 hRw hK0 HAT HS1 e0 e1 e2 d0 d1
      go_wp2_with fail
      go_loopw [25] (fun iv wr => ∃ j : Nat, j ≤ Rw.length ∧ iv = .int .i64 j ∧ Hid (SL B w n L sv vs f z #[.slice fo F.length fc, .slice lo Ls.length lc] (some ⟨g, 0, none⟩) sc out.length (K0.set i (x, d, (Rw.take j).any (hits vs d))) wr ∧ wr.heap[y]? = some (.cells #[.int .i64 (x : Int), .int .u64 d, .bool false] 91))) (fun iv _ => Rw.length - (intOf iv).toNat)
      case atStart => exact ⟨0, Nat.zero_le _, rfl, HS6.out⟩
      case round =>
        obtain ⟨j, hj, rfl, HJ⟩ := hrel
        rcases Nat.lt_or_eq_of_le hj with h2 | h2
        · obtain ⟨l, hl⟩ : ∃ l, Rw[j]? = some l := ⟨Rw[j], List.getElem?_eq_getElem h2⟩
          obtain ⟨q1, q2, q3⟩ := HLL.out j l hl
          obtain ⟨_, b, off, e1, _, g0, g1, g2, g3⟩ := (HX.out wr (HM.out wr HJ.out.1.bel).2).at hl
          subst e1
          have HT : Hid ((Rw.take (j + 1)).any (hits vs d) = ((Rw.take j).any (hits vs d) || hits vs d l)) := by
            show _ = _
            rw [List.take_add_one, hl]
            simp
          have i4 : (j : Int) < (Rw.length : Int) := by omega
          have i5 : (0 : Int) ≤ (j : Int) := by omega
          have i6 : IntKind.i64.wrap (l.hd : Int) = (l.hd : Int) := by rw [IntKind.wrap_i64]; omega
          have hvl : vs.length = n := HJ.out.1.clm.st.lt.2.2.2.1
          obtain ⟨o, ho⟩ : ∃ o, vs[l.hd]? = some o := ⟨vs[l.hd]'(by omega), List.getElem?_eq_getElem (by omega)⟩
          have hgot : ∃ (a : Int) (bb : Bool), St.gotV o = .tuple #[.int .u64 a, .bool bb] ∧ hits vs d l = (bb && decide (a + l.wt < d)) ∧ 0 ≤ a ∧ a ≤ 9223372036854775808 := by
            cases o with
            | none => exact ⟨0, false, rfl, by unfold hits; rw [ho]; rfl, by omega, by omega⟩
            | some a =>
              have hlo := HLOW.out l.hd a ho
              exact ⟨a, true, rfl, by unfold hits; rw [ho]; rfl, hlo.1, by omega⟩
          obtain ⟨a, bb, hgv, hhit, ha1, ha2⟩ := hgot
          have i7 : IntKind.u64.wrap (a + (l.wt : Int)) = a + (l.wt : Int) := by rw [IntKind.wrap_u64]; omega
          clear hl
          go_upto_region 7 with fail
          obtain ⟨q, hq⟩ : ∃ q, wr.heap.size = q := ⟨_, rfl⟩
          obtain ⟨W2, hW2⟩ : ∃ W2, wr.alloc (.cells #[.int .u32 (l.hd : Int), .int .u64 (l.wt : Int), .int .u32 (l.lf : Int), .int .u32 (l.rt : Int)] 45) = W2 := ⟨_, rfl⟩
          have H2 : Hid (∀ wx, Below W2.heap.size W2 wx → (SL B w n L sv vs f z #[.slice fo F.length fc, .slice lo Ls.length lc] (some ⟨g, 0, none⟩) sc out.length (K0.set i (x, d, (Rw.take j).any (hits vs d))) wx ∧ wx.heap[y]? = some (.cells #[.int .i64 (x : Int), .int .u64 d, .bool false] 91)) ∧ (wx.cell? ⟨q, 0, none⟩ = some (.int .u32 (l.hd : Int)) ∧ wx.cell? ⟨q, 1, none⟩ = some (.int .u64 (l.wt : Int))) ∧ wx.cell? ⟨L.ci, 0, none⟩ = some (.pointer (some ⟨L.sb, 0, none⟩))) := fun wx hx => by
            have f1 : W2.heap[q]? = some (.cells #[.int .u32 (l.hd : Int), .int .u64 (l.wt : Int), .int .u32 (l.lf : Int), .int .u32 (l.rt : Int)] 45) := by rw [← hW2, ← hq]; exact heap_newW _ _
            have f2 : Below wr.heap.size wr W2 := by rw [← hW2]; exact (Below.refl _ _).alloc (Nat.le_refl _) _
            have f3 : Below wr.heap.size wr wx := f2.trans (hx.mono f2.size)
            have f4 := (hx.block _ (some_lt f1)).trans f1
            have f5 := HJ.out.1.below f3 HB.out
            exact ⟨⟨f5, (f3.block _ (some_lt HJ.out.2)).trans HJ.out.2⟩, by simp [World.cell?, f4], f5.clm.cells.1⟩
          have HG : Hid (∀ wx, Below W2.heap.size W2 wx → Calls Try.prog 43 #[.pointer (some ⟨L.sb, 0, none⟩), .int .i64 (l.hd : Int)] wx fun e w' => e = .returned (.tuple #[.int .u64 a, .bool bb]) ∧ Below wx.heap.size wx w') := fun wx hx => by rw [← hgv]; exact St.get_in (H2.out wx hx).1.1.clm.st l.hd o ho
          have HB2 : Hid (Below W2.heap.size W2 W2) := Below.refl _ _
          rw [hW2, hq]
          clear hq hW2 g0 g1 g2 g3 ho hgv
          obtain ⟨_, ⟨k0, k1⟩, k2⟩ := H2.out W2 HB2.out
          go_region_held3 (fun w' => w'.cell? ⟨q, 0, none⟩ = some (.int .u32 (l.hd : Int)) ∧ w'.cell? ⟨L.ci, 0, none⟩ = some (.pointer (some ⟨L.sb, 0, none⟩))) (go_keep) (first
            | (go_at_call 43; refine (HG.out _ (by first | exact HB2.out.drew | exact bdrew HB2.out _ | exact HB2.out)).mono ?_; rintro e v1 ⟨rfl, hy⟩; have V1 : Hid (Below W2.heap.size W2 v1) := btrH' (by first | exact HB2.out.drew | exact bdrew HB2.out _ | exact HB2.out) hy; obtain ⟨_, ⟨k0, k1⟩, k2⟩ := H2.out v1 V1.out; clear hy))
          obtain ⟨⟨hS3, hy3⟩, _, _⟩ := H2.out v1 V1.out
          have HS3 : Hid (SL B w n L sv vs f z #[.slice fo F.length fc, .slice lo Ls.length lc] (some ⟨g, 0, none⟩) sc out.length (K0.set i (x, d, (Rw.take j).any (hits vs d))) v1 ∧ v1.heap[y]? = some (.cells #[.int .i64 (x : Int), .int .u64 d, .bool false] 91)) := ⟨hS3, hy3⟩
          obtain ⟨e0, e1, e2⟩ := three_cells hy3
          clear hS3 hy3
          have HKI : Hid ((K0.set i (x, d, (Rw.take j).any (hits vs d)))[i]? = some (x, d, (Rw.take j).any (hits vs d))) := by
            show _ = _
            rw [List.getElem?_set_self (by omega)]
          cases hh : hits vs d l with
          | false =>
            have HE : Hid (K0.set i (x, d, (Rw.take (j + 1)).any (hits vs d)) = K0.set i (x, d, (Rw.take j).any (hits vs d))) := by show _ = _; rw [HT.out, hh, Bool.or_false]
            rw [hh] at hhit
            have hcase : bb = false ∨ (bb = true ∧ ¬ a + (l.wt : Int) < d) := by
              cases bb
              · exact Or.inl rfl
              · exact Or.inr ⟨rfl, by simpa using hhit.symm⟩
            clear hhit hh
            rcases hcase with rfl | ⟨rfl, hlt⟩
            all_goals
              go_wp2
              go_roundw
              case rel => exact ⟨j + 1, by omega, by go_num, by rw [HE.out]; exact HS3.out⟩
              case measure => simp [intOf]; omega
          | true =>
            have HE : Hid (K0.set i (x, d, (Rw.take (j + 1)).any (hits vs d)) = (K0.set i (x, d, (Rw.take j).any (hits vs d))).set i (x, d, true)) := by show _ = _; rw [HT.out, hh, Bool.or_true, List.set_set]
            rw [hh] at hhit
            obtain ⟨rfl, hlt⟩ : bb = true ∧ a + (l.wt : Int) < d := by
              cases bb
              · simp at hhit
              · exact ⟨rfl, by simpa using hhit.symm⟩
            have HFL : Hid (SL B w n L sv vs f z #[.slice fo F.length fc, .slice lo Ls.length lc] (some ⟨g, 0, none⟩) sc out.length ((K0.set i (x, d, (Rw.take j).any (hits vs d))).set i (x, d, true)) (v1.setCell ⟨g, i * 3 + 2, none⟩ (.bool true)) ∧ (v1.setCell ⟨g, i * 3 + 2, none⟩ (.bool true)).heap[y]? = some (.cells #[.int .i64 (x : Int), .int .u64 d, .bool false] 91)) := ⟨HS3.out.1.flag HKI.out, (Below.heap_setCell _ _ _ _ hyg).trans HS3.out.2⟩
            obtain ⟨_, _, s2⟩ := snv_get _ i _ HKI.out
            have c2 := (HS3.out.1.own.cellAt (i * 3 + 2) (by omega)).trans s2
            have z2 := HS3.out.1.own.frozenAt (i * 3 + 2)
            clear hhit hh s2
            go_wp2
            go_roundw
            case rel => exact ⟨j + 1, by omega, by go_num, by rw [HE.out]; exact HFL.out⟩
            case measure => simp [intOf]; omega
        · subst h2
          have HJ2 : Hid (SL B w n L sv vs f z #[.slice fo F.length fc, .slice lo Ls.length lc] (some ⟨g, 0, none⟩) sc out.length (stK vs (rowL F Ls) (i + 1) out) wr) := by
            have g := HJ.out.1
            rw [List.take_length] at g
            show SL _ _ _ _ _ _ _ _ _ _ _ _ _ _
            rw [HST.out]
            exact g
          go_wp2
          go_roundw
          case rel => exact ⟨i + 1, by omega, by go_num, HJ2.out⟩
          case measure => simp [intOf]; omega
    · subst h1
      go_wp2
      exact bodyPost_end (v := .tuple #[]) (by simp [results, Try.results38]) rfl ⟨rfl, by have g := HS.out.own; rw [stK_all] at g; exact g, HS.out.bel⟩
end Go.Proofs.Ytepkogijignmlab.Cb
