/- the law's few; lists of its own. walk.Shortest and the reference's, whatever arrays and list: the same answer. the law WalkLengths. -/
import Derived.Test.YtdfjmfgbdnpkbaaDoorWkU
import Derived.Test.YtdfjmfgbdnpkbaaDoorWkV
import Derived.Test.YtdfjmfgbdnpkbaaDoorWnT
import Derived.Test.YtdfjmfgbdnpkbaaDoorSeen
namespace Go.Proofs.YtdfjmfgbdnpkbaaDoor
open Go.RowKit Go.Extern

attribute [local go_sem] Oper.semAt_some

/-- a list of its own, as it may be handed on. -/
def Tw (w : World) (mo : Option Addr) (mc : Nat) (l : List Int) : Prop := HasInts w (.slice mo l.length mc) l ∧ l.length ≤ mc ∧ (mo = none ∨ ∃ g, mo = some ⟨g, 0, none⟩)
theorem tw_of {w : World} {B mc : Nat} {mo : Option Addr} {l : List Int} (h : w.ownsRow B 3 1 (.slice mo l.length mc) l.length (iv l)) : Tw w mo mc l := by
  refine ⟨ints_of_iown h, ?_⟩
  rcases h.2 with ⟨e, h0⟩ | ⟨g, cap, cur, e, _, hh, hle, _⟩
  · injection e with e1 e2 e3
    exact ⟨by omega, Or.inl e1⟩
  · injection e with e1 e2 e3
    exact ⟨by omega, Or.inr ⟨g, e1⟩⟩
theorem Tw.keep {w w' : World} {mo : Option Addr} {mc : Nat} {l : List Int} (h : Tw w mo mc l) (hb : Below w.heap.size w w') : Tw w' mo mc l := ⟨h.1.keep hb, h.2⟩

/-- a yes or no. -/
def SomeB (e : Ending) : Prop := ∃ b, e = .returned (.bool b)

set_option maxRecDepth 100000 in
set_option maxHeartbeats 4000000 in
theorem few9_calls (fo uo wo : Option Addr) (fc tc wc : Nat) (F T W : List Int) (C : Int × List (Int × Int)) (hC : ChkIs F T W C) (hm : F.length ≤ maxLen) (w : World) (hA : Arr w F T W fo uo wo fc tc wc) (lo : Option Addr) (lc m : Nat) (hml : m ≤ maxLen) :
    Calls Tryd.prog 7 #[.agg #[.slice fo F.length fc, .slice uo T.length tc, .slice wo W.length wc], .slice lo m lc] w fun e w' => SomeB e ∧ Below w.heap.size w w' := by
  obtain ⟨W0, hW0⟩ : ∃ W0, w.alloc (.cells #[.slice fo F.length fc, .slice uo T.length tc, .slice wo W.length wc] 24) = W0 := ⟨_, rfl⟩
  have HW0 : Hid (w.alloc (.cells #[.slice fo F.length fc, .slice uo T.length tc, .slice wo W.length wc] 24) = W0) := hW0
  have hB0 : Below w.heap.size w W0 := by rw [← hW0]; exact (Below.refl _ w).alloc (Nat.le_refl _) _
  have hbx : W0.heap[w.heap.size]? = some (.cells #[.slice fo F.length fc, .slice uo T.length tc, .slice wo W.length wc] 24) := by rw [← hW0]; exact heap_new _ _
  have HB0 : Hid (Below w.heap.size w W0) := hB0
  have HK : Hid (∀ wx, Below W0.heap.size W0 wx → (wx.cell? ⟨w.heap.size, 0, none⟩ = some (.slice fo F.length fc) ∧ wx.cell? ⟨w.heap.size, 1, none⟩ = some (.slice uo T.length tc) ∧ wx.cell? ⟨w.heap.size, 2, none⟩ = some (.slice wo W.length wc)) ∧ w.heap.size < wx.heap.size) := fun wx hx => by
    have hg := (hx.block _ (lt_of_get hbx)).trans hbx
    exact ⟨box3 hg, lt_of_get hg⟩
  have HDC : Hid (Calls Tryd.prog 25 #[.agg #[.slice fo F.length fc, .slice uo T.length tc, .slice wo W.length wc]] W0 (DocAns W0 C)) := docCheck_any fo uo wo _ fc _ tc _ wc F T W C W0 (hA.f.keep hB0) (hA.t.keep hB0) (hA.w.keep hB0) hm hC
  unfold maxLen at hm hml
  clear hA hW0 hB0 hbx hC
  obtain ⟨⟨c0, c1, c2⟩, cs⟩ := HK.out W0 (Below.refl _ _)
  by_cases h1 : (m : Int) ≤ 2000
  · go_enter Tryd.func7, Tryd.ntmps7
    go_wp2_with fail
    rw [HW0.out]
    refine HDC.out.mono ?_
    rintro e w1 ⟨mo, mc, rfl, _, hb⟩
    have HB1 : Hid (Below W0.heap.size W0 w1) := hb
    clear hb c0 c1 c2 cs
    go_wp2_with fail
    have hb2 : Below w1.heap.size w1 (w1.alloc (.cells #[.int .i64 C.1, .slice mo C.2.length mc] 37)) := (Below.refl _ _).alloc (Nat.le_refl _) _
    generalize w1.alloc (.cells #[.int .i64 C.1, .slice mo C.2.length mc] 37) = w2 at *
    have HB2 : Hid (Below W0.heap.size W0 w2) := btr HB1.out hb2
    clear hb2
    refine (bad_calls _ _ _ _ _).mono ?_
    generalize (C.1 != 0 || decide (0 < C.2.length)) = bb
    rintro e w3 ⟨rfl, hb⟩
    have HB3 : Hid (Below W0.heap.size W0 w3) := btr HB2.out hb
    clear hb HB2
    obtain ⟨⟨c0, c1, c2⟩, cs⟩ := HK.out w3 HB3.out
    have HBZ : Hid (Below w.heap.size w w3) := btr HB0.out HB3.out
    cases bb
    · by_cases h2 : (F.length : Int) ≤ 30
      · go_wp2
        go_ret
        exact ⟨⟨_, rfl⟩, HBZ.out⟩
      · go_wp2
        go_ret
        exact ⟨⟨_, rfl⟩, HBZ.out⟩
    · go_wp2
      go_ret
      exact ⟨⟨_, rfl⟩, HBZ.out⟩
  · go_enter Tryd.func7, Tryd.ntmps7
    go_wp2_with fail
    rw [HW0.out]
    refine HDC.out.mono ?_
    rintro e w1 ⟨mo, mc, rfl, _, hb⟩
    have HB1 : Hid (Below W0.heap.size W0 w1) := hb
    have HBZ : Hid (Below w.heap.size w w1) := btr HB0.out hb
    clear hb c0 c1 c2 cs
    go_wp2
    go_ret
    exact ⟨⟨_, rfl⟩, HBZ.out.alloc HBZ.out.size _⟩
end Go.Proofs.YtdfjmfgbdnpkbaaDoor

namespace Go.Proofs.YtdfjmfgbdnpkbaaDoor
open Go.RowKit Go.Extern

theorem wlen_zero {F T W : List Int} {C : Int × List (Int × Int)} {xs : List Int} {L : Int} {E : Int × List (Int × Int)} (h : WLen F T W C xs L E) (he : E.1 ≠ 0) : L = 0 := by
  rcases h with ⟨_, h, _⟩ | ⟨_, n, m, zs, _, _, _, _, _, _, ⟨_, h, _⟩ | ⟨_, _, _, _, _, h, _⟩ | ⟨_, _, _, _, _, _, _, _, _, h, _⟩ | ⟨_, _, _, _, _, h⟩⟩
  · exact h
  · exact h
  · exact h
  · exact h
  · subst h; exact absurd rfl he
theorem wlen_right {F T W : List Int} {C : Int × List (Int × Int)} {xs : List Int} {L : Int} {E : Int × List (Int × Int)} (h : WLen F T W C xs L E) (he : E.1 = 0) : E = (0, []) ∧ C = (0, []) ∧ xs ≠ [] ∧ ∃ n m zs, Lens F T W n m ∧ Fine n zs ∧ firsts n zs = F ∧ tos zs = T ∧ weights zs = W ∧ zs.length = m ∧ Nodes n xs := by
  rcases h with ⟨h1, _, h2⟩ | ⟨hC, n, m, zs, g1, g2, g3, g4, g5, g6, ⟨_, _, h⟩ | ⟨_, _, _, _, _, _, h⟩ | ⟨_, _, _, _, _, _, _, _, _, _, h⟩ | ⟨hn, h0, _, _, _, h⟩⟩
  · rw [h2] at he; exact absurd he h1
  · subst h; cases he
  · subst h; cases he
  · subst h; cases he
  · exact ⟨h, hC, h0, n, m, zs, g1, g2, g3, g4, g5, g6, hn⟩
theorem told_nil {w : World} {v : Value} (h : IsTold w (0, []) v) : v = .nilIface := by
  rcases h with ⟨_, rfl⟩ | ⟨h, _⟩
  · rfl
  · exact absurd rfl h
theorem told_zero (w : World) : IsTold w (0, []) .nilIface := Or.inl ⟨rfl, rfl⟩

theorem short_both (F T W : List Int) (C : Int × List (Int × Int)) (hC : ChkIs F T W C) (hm : F.length ≤ maxLen) (xs : List Int) (hxl : xs.length ≤ 1000000) (L : Int) (E : Int × List (Int × Int)) (hL : WLen F T W C xs L E) :
    ∃ b : Bool, (∀ (fo uo wo : Option Addr) (fc tc wc : Nat) (wx : World) (mo : Option Addr) (mc : Nat), Arr wx F T W fo uo wo fc tc wc → T.length ≤ tc → Tw wx mo mc xs → Calls Tryd.prog 13 #[.agg #[.slice fo F.length fc, .slice uo T.length tc, .slice wo W.length wc], .slice mo xs.length mc] wx fun e w' => ∃ v, e = .returned (.tuple #[.bool b, v]) ∧ IsTold w' E v ∧ Below wx.heap.size wx w') ∧
      (∀ (fo uo wo : Option Addr) (fc tc wc : Nat) (wx : World) (no : Option Addr) (nc : Nat), Arr wx F T W fo uo wo fc tc wc → HasInts wx (.slice no xs.length nc) xs → Calls Tryd.prog 14 #[.agg #[.slice fo F.length fc, .slice uo T.length tc, .slice wo W.length wc], .slice no xs.length nc] wx (SAns wx b E)) := by
  by_cases hE : E.1 = 0
  · obtain ⟨rfl, rfl, h0, n, m, zs, g1, hz, g3, g4, g5, g6, hn⟩ := wlen_right hL hE
    obtain ⟨q, hq⟩ : ∃ q, xs.length = q + 1 := ⟨xs.length - 1, by have := List.length_pos_iff.2 h0; omega⟩
    have hx0 : xs[0]? = some xs[0] := List.getElem?_eq_getElem (by omega)
    have hxq : xs[q]? = some xs[q] := List.getElem?_eq_getElem (by omega)
    obtain ⟨s1, s2⟩ := hn _ (List.mem_of_getElem? hx0)
    obtain ⟨z1, z2⟩ := hn _ (List.mem_of_getElem? hxq)
    obtain ⟨s, hs⟩ := Int.eq_ofNat_of_zero_le s1
    obtain ⟨z, hz'⟩ := Int.eq_ofNat_of_zero_le z1
    rw [hs] at hx0 s2
    rw [hz'] at hxq z2
    have f1 : F.length = n + 1 := g1.f
    have f2 : T.length = zs.length := by rw [g1.t, g6]
    have f3 : W.length = zs.length := by rw [g1.w, g6]
    have key : ∃ b, ∀ c, ShortAns n zs s z L c → c = b := by
      by_cases h : ∃ c, ShortAns n zs s z L c
      · obtain ⟨b, hb⟩ := h
        exact ⟨b, fun c hc => hc.unique hb⟩
      · exact ⟨false, fun c hc => absurd ⟨c, hc⟩ h⟩
    obtain ⟨b, hb⟩ := key
    refine ⟨b, fun fo uo wo fc tc wc wx mo mc hA htc ht => ?_, fun fo uo wo fc tc wc wx no nc hA hx => ?_⟩
    · have hI : CsrIn wx n zs fo uo wo fc tc wc := (csrIn_of hA.f hA.t hA.w g1 g3 g4 g5 g6).2.2.2
      have hlen : ∀ wy, Below wx.heap.size wx wy → Calls Tryd.prog 8 #[.agg #[.slice fo F.length fc, .slice uo T.length tc, .slice wo W.length wc], .slice mo xs.length mc] wy fun e w' => e = .returned (.tuple #[.int .u64 L, .nilIface]) ∧ Below wy.heap.size wy w' := fun wy hy => by
        refine (length_any fo uo wo fc tc wc F T W _ hC hm wy (hA.keep hy) htc mo mc xs (ht.keep hy).1 ht.2.1 hxl L _ hL).mono ?_
        rintro e w' ⟨v, he, hv, hb'⟩
        rw [told_nil hv] at he
        exact ⟨he, hb'⟩
      obtain ⟨lb, lof, rfl, _, _⟩ := ht.1.cells (by omega)
      have hxx := ht.1
      rw [f1, f2, f3, hq] at hlen
      rw [hq] at hxx
      rw [f1, f2, f3, hq]
      refine (shortest_ex n zs fo uo wo fc tc wc wx hz hI lb lof mc q s z xs hxx (by omega) hx0 (by omega) hxq (by omega) L hlen).mono ?_
      rintro e w' ⟨c, he, hc, hb'⟩
      rw [hb c hc] at he
      exact ⟨_, he, told_zero w', hb'⟩
    · have hI : CsrIn wx n zs fo uo wo fc tc wc := (csrIn_of hA.f hA.t hA.w g1 g3 g4 g5 g6).2.2.2
      have hlen : ∀ wy, Below wx.heap.size wx wy → Calls Tryd.prog 11 #[.agg #[.slice fo F.length fc, .slice uo T.length tc, .slice wo W.length wc], .slice no xs.length nc] wy (LAns wy L (0, [])) := fun wy hy => docLength_any fo uo wo fc tc wc F T W _ hC hm wy (hA.keep hy) no nc xs (hx.keep hy) hxl L _ hL
      obtain ⟨lb, lof, rfl, _, _⟩ := hx.cells (by omega)
      rw [f1, f2, f3, hq] at hlen
      rw [hq] at hx
      rw [f1, f2, f3, hq]
      refine (docShortest_ex n zs fo uo wo fc tc wc wx hz hI lb lof nc q s z xs hx (by omega) hx0 (by omega) hxq (by omega) L hlen).mono ?_
      rintro e w' ⟨c, hS, hc⟩
      rw [hb c hc] at hS
      exact hS
  · have hL0 := wlen_zero hL hE
    subst hL0
    refine ⟨false, fun fo uo wo fc tc wc wx mo mc hA htc ht => ?_, fun fo uo wo fc tc wc wx no nc hA hx => ?_⟩
    · refine shortest_err _ _ _ _ _ rfl wx E fun wy hy => ?_
      refine (length_any fo uo wo fc tc wc F T W C hC hm wy (hA.keep hy) htc mo mc xs (ht.keep hy).1 ht.2.1 hxl 0 E hL).mono ?_
      rintro e w' ⟨v, he, hv, hb'⟩
      obtain ⟨Ty, x, rfl⟩ := told_iface9 hv hE
      exact ⟨Ty, x, he, hv, hb'⟩
    · exact docShortest_bad fo uo wo _ fc _ tc _ wc wx no _ nc 0 E.1 E.2 hE fun wy hy => docLength_any fo uo wo fc tc wc F T W C hC hm wy (hA.keep hy) no nc xs (hx.keep hy) hxl 0 E hL
end Go.Proofs.YtdfjmfgbdnpkbaaDoor

namespace Go.Proofs.YtdfjmfgbdnpkbaaDoor
open Go.RowKit Go.Extern

attribute [local go_sem] Oper.semAt_some

theorem keeps_box {W W' : World} {b : Nat} {c : Array Value} {t : TypeId} (h : W.heap[b]? = some (.cells c t)) (ht : t ≠ 68) (hk : ∀ g, g ≠ b → W'.heap[g]? = W.heap[g]?) : Keeps W W' := fun d x hd => by
  have hne : d ≠ b := fun e => by rw [e, h] at hd; cases hd; exact ht rfl
  rw [hk d hne]
  exact hd
theorem lay2_box {W : World} {b : Nat} {c0 c1 x y : Value} {T : TypeId} (h : W.heap[b]? = some (.cells #[x, y] T)) : (lay2 W b c0 c1).heap[b]? = some (.cells #[c0, c1] T) := by
  have h1 : (W.setCell ⟨b, 0, none⟩ c0).heap[b]? = some (.cells #[c0, y] T) := (Go.heap_setCell_same _ _ 0 _ _ _ h).trans rfl
  exact (Go.heap_setCell_same _ _ 1 _ _ _ h1).trans rfl
theorem wlen_places {F T W : List Int} {C : Int × List (Int × Int)} (hC : ChkIs F T W C) {xs : List Int} {L : Int} {E : Int × List (Int × Int)} (h : WLen F T W C xs L E) : E.2.length ≤ 1 := by
  rcases h with ⟨_, _, h⟩ | ⟨_, n, m, zs, _, _, _, _, _, _, ⟨_, _, h⟩ | ⟨_, _, _, _, _, _, h⟩ | ⟨_, _, _, _, _, _, _, _, _, _, h⟩ | ⟨_, _, _, _, _, h⟩⟩
  · subst h; exact (chk_split hC).1
  all_goals (subst h; simp)

set_option maxRecDepth 100000 in
set_option maxHeartbeats 4000000 in
theorem few9_far (fo uo wo : Option Addr) (fc tc wc : Nat) (F T W : List Int) (C : Int × List (Int × Int)) (hC : ChkIs F T W C) (hm : F.length ≤ maxLen) (w : World) (hA : Arr w F T W fo uo wo fc tc wc) (lo : Option Addr) (lc m : Nat) (hml : m ≤ maxLen) (h1 : 2000 < m) :
    Calls Tryd.prog 7 #[.agg #[.slice fo F.length fc, .slice uo T.length tc, .slice wo W.length wc], .slice lo m lc] w fun e w' => e = .returned (.bool false) ∧ Below w.heap.size w w' := by
  obtain ⟨W0, hW0⟩ : ∃ W0, w.alloc (.cells #[.slice fo F.length fc, .slice uo T.length tc, .slice wo W.length wc] 24) = W0 := ⟨_, rfl⟩
  have HW0 : Hid (w.alloc (.cells #[.slice fo F.length fc, .slice uo T.length tc, .slice wo W.length wc] 24) = W0) := hW0
  have hB0 : Below w.heap.size w W0 := by rw [← hW0]; exact (Below.refl _ w).alloc (Nat.le_refl _) _
  have HB0 : Hid (Below w.heap.size w W0) := hB0
  have HDC : Hid (Calls Tryd.prog 25 #[.agg #[.slice fo F.length fc, .slice uo T.length tc, .slice wo W.length wc]] W0 (DocAns W0 C)) := docCheck_any fo uo wo _ fc _ tc _ wc F T W C W0 (hA.f.keep hB0) (hA.t.keep hB0) (hA.w.keep hB0) hm hC
  unfold maxLen at hm hml
  have h2 : ¬ (m : Int) ≤ 2000 := by omega
  clear hA hW0 hB0 hC
  go_enter Tryd.func7, Tryd.ntmps7
  go_wp2_with fail
  rw [HW0.out]
  refine HDC.out.mono ?_
  rintro e w1 ⟨mo, mc, rfl, _, hb⟩
  have HB1 : Hid (Below W0.heap.size W0 w1) := hb
  have HBZ : Hid (Below w.heap.size w w1) := btr HB0.out hb
  clear hb
  go_wp2
  go_ret
  exact ⟨rfl, HBZ.out.alloc HBZ.out.size _⟩

set_option maxRecDepth 100000 in
set_option maxHeartbeats 4000000 in
theorem lengths9_far (fo uo wo : Option Addr) (fc tc wc : Nat) (F T W : List Int) (C : Int × List (Int × Int)) (hC : ChkIs F T W C) (mF : F.length * 8 ≤ 140737488351232) (w : World) (hA : Arr w F T W fo uo wo fc tc wc) (no : Option Addr) (nc m : Nat) (hm : m * 8 ≤ 140737488351232) (hm2 : 2000 < m) :
    Calls Tryd.prog 3 #[.agg #[.slice fo F.length fc, .slice uo T.length tc, .slice wo W.length wc], .slice no m nc] w fun e w' => e = .returned (.bool true) ∧ Below w.heap.size w w' := by
  obtain ⟨W0, hW0⟩ : ∃ W0, w.alloc (.cells #[.slice fo F.length fc, .slice uo T.length tc, .slice wo W.length wc] 24) = W0 := ⟨_, rfl⟩
  have HW0 : Hid (w.alloc (.cells #[.slice fo F.length fc, .slice uo T.length tc, .slice wo W.length wc] 24) = W0) := hW0
  have hB0 : Below w.heap.size w W0 := by rw [← hW0]; exact (Below.refl _ w).alloc (Nat.le_refl _) _
  have hbx : W0.heap[w.heap.size]? = some (.cells #[.slice fo F.length fc, .slice uo T.length tc, .slice wo W.length wc] 24) := by rw [← hW0]; exact heap_new _ _
  have hmF : F.length ≤ maxLen := by unfold maxLen; omega
  have HK : Hid (∀ wx, Below W0.heap.size W0 wx → (wx.cell? ⟨w.heap.size, 0, none⟩ = some (.slice fo F.length fc) ∧ wx.cell? ⟨w.heap.size, 1, none⟩ = some (.slice uo T.length tc) ∧ wx.cell? ⟨w.heap.size, 2, none⟩ = some (.slice wo W.length wc)) ∧ w.heap.size < wx.heap.size ∧ Below w.heap.size w wx) := fun wx hwx => by
    have hg := (hwx.block _ (lt_of_get hbx)).trans hbx
    exact ⟨box3 hg, lt_of_get hg, hB0.trans (hwx.mono hB0.size)⟩
  have HFW : Hid (∀ wx, Below W0.heap.size W0 wx → Calls Tryd.prog 7 #[.agg #[.slice fo F.length fc, .slice uo T.length tc, .slice wo W.length wc], .slice no m nc] wx fun e w' => e = .returned (.bool false) ∧ Below wx.heap.size wx w') := fun wx hwx => few9_far fo uo wo fc tc wc F T W C hC hmF wx (hA.keep (HK.out wx hwx).2.2) _ nc m (by unfold maxLen; omega) hm2
  clear hW0 hB0 hbx hA hC hmF mF
  go_enter Tryd.func3, Tryd.ntmps3
  go_wp2_with fail
  rw [HW0.out]
  refine (awake9_calls W0).mono ?_
  rintro e w1 ⟨rfl, hb⟩
  have HB1 : Hid (Below W0.heap.size W0 w1) := hb
  clear hb
  obtain ⟨⟨c0, c1, c2⟩, cs, _⟩ := HK.out w1 HB1.out
  go_wp2_with fail
  refine (HFW.out w1 HB1.out).mono ?_
  rintro e w2 ⟨rfl, hb⟩
  have HBZ : Hid (Below w.heap.size w w2) := (HK.out w2 (btr HB1.out hb)).2.2
  clear hb HB1 c0 c1 c2 cs
  go_wp2
  go_ret
  exact ⟨rfl, HBZ.out⟩

set_option maxRecDepth 100000 in
set_option maxHeartbeats 8000000 in
theorem lengths9_near (fo uo wo : Option Addr) (fc tc wc : Nat) (F T W : List Int) (C : Int × List (Int × Int)) (hC : ChkIs F T W C) (mF : F.length * 8 ≤ 140737488351232) (mT : T.length * 8 ≤ 140737488351232) (mW : W.length * 8 ≤ 140737488351232) (w : World) (hA : Arr w F T W fo uo wo fc tc wc) (no : Option Addr) (nc : Nat) (xs : List Int) (hx : HasInts w (.slice no xs.length nc) xs) (hxl : xs.length ≤ 2000) (hg : HasType w) :
    Calls Tryd.prog 3 #[.agg #[.slice fo F.length fc, .slice uo T.length tc, .slice wo W.length wc], .slice no xs.length nc] w fun e w' => e = .returned (.bool true) ∧ Below w.heap.size w w' := by
  obtain ⟨W0, hW0⟩ : ∃ W0, w.alloc (.cells #[.slice fo F.length fc, .slice uo T.length tc, .slice wo W.length wc] 24) = W0 := ⟨_, rfl⟩
  have HW0 : Hid (w.alloc (.cells #[.slice fo F.length fc, .slice uo T.length tc, .slice wo W.length wc] 24) = W0) := hW0
  have hB0 : Below w.heap.size w W0 := by rw [← hW0]; exact (Below.refl _ w).alloc (Nat.le_refl _) _
  have hbx : W0.heap[w.heap.size]? = some (.cells #[.slice fo F.length fc, .slice uo T.length tc, .slice wo W.length wc] 24) := by rw [← hW0]; exact heap_new _ _
  have hmF : F.length ≤ maxLen := by unfold maxLen; omega
  obtain ⟨L, E, hL⟩ := wlen_total hC xs
  obtain ⟨bb, hs1, hs2⟩ := short_both F T W C hC hmF xs (by omega) L E hL
  have hE1 := wlen_places hC hL
  have HK : Hid (∀ wx, Below W0.heap.size W0 wx → (wx.cell? ⟨w.heap.size, 0, none⟩ = some (.slice fo F.length fc) ∧ wx.cell? ⟨w.heap.size, 1, none⟩ = some (.slice uo T.length tc) ∧ wx.cell? ⟨w.heap.size, 2, none⟩ = some (.slice wo W.length wc)) ∧ w.heap.size < wx.heap.size ∧ Below w.heap.size w wx) := fun wx hwx => by
    have hg := (hwx.block _ (lt_of_get hbx)).trans hbx
    exact ⟨box3 hg, lt_of_get hg, hB0.trans (hwx.mono hB0.size)⟩
  have HX : Hid (∀ wx, Below W0.heap.size W0 wx → HasInts wx (.slice no xs.length nc) xs ∧ Arr wx F T W fo uo wo fc tc wc) := fun wx hwx => ⟨hx.keep (HK.out wx hwx).2.2, hA.keep (HK.out wx hwx).2.2⟩
  have HG : Hid (∀ wx, Below w.heap.size w wx → HasType wx) := fun wx h => hg.keep h hg.pos
  have HFW : Hid (∀ wx, Below W0.heap.size W0 wx → Calls Tryd.prog 7 #[.agg #[.slice fo F.length fc, .slice uo T.length tc, .slice wo W.length wc], .slice no xs.length nc] wx fun e w' => SomeB e ∧ Below wx.heap.size wx w') := fun wx hwx => few9_calls fo uo wo fc tc wc F T W C hC hmF wx (HX.out wx hwx).2 _ nc xs.length (by unfold maxLen; omega)
  have HTX : Hid (∀ wx, Below W0.heap.size W0 wx → Calls Tryd.prog 10 #[.slice no xs.length nc] wx fun e w' => ∃ mo mc, e = .returned (.slice mo xs.length mc) ∧ Tw w' mo mc xs ∧ Below wx.heap.size wx w') := fun wx hwx => by
    refine (twinInts_calls _ nc xs wx (HX.out wx hwx).1 (by omega)).mono ?_
    rintro e w' ⟨mo, mc, he, ho, hb'⟩
    exact ⟨mo, mc, he, tw_of ho, hb'⟩
  have HOF : Hid (∀ wx, Below W0.heap.size W0 wx → Calls Tryd.prog 9 #[.agg #[.slice fo F.length fc, .slice uo T.length tc, .slice wo W.length wc]] wx fun e w' => ∃ fo2 fc2 uo2 tc2 wo2 wc2, e = .returned (.agg #[.slice fo2 F.length fc2, .slice uo2 T.length tc2, .slice wo2 W.length wc2]) ∧ (Arr w' F T W fo2 uo2 wo2 fc2 tc2 wc2 ∧ T.length ≤ tc2) ∧ Below wx.heap.size wx w') := fun wx hwx => by
    have hA2 := (HX.out wx hwx).2
    refine (of9_calls fo uo wo fc tc wc F T W wx hA2.f hA2.t hA2.w mF mT mW).mono ?_
    rintro e w' ⟨fo2, fc2, uo2, tc2, wo2, wc2, he, ho, hb⟩
    exact ⟨fo2, fc2, uo2, tc2, wo2, wc2, he, ⟨Own3.arr ho, (tw_of ho.2.1).2.1⟩, hb⟩
  have HLX : Hid (∀ wx fo2 fc2 uo2 tc2 wo2 wc2 mo mc, (Arr wx F T W fo2 uo2 wo2 fc2 tc2 wc2 ∧ T.length ≤ tc2) → Tw wx mo mc xs → Calls Tryd.prog 8 #[.agg #[.slice fo2 F.length fc2, .slice uo2 T.length tc2, .slice wo2 W.length wc2], .slice mo xs.length mc] wx fun e w' => ∃ v, e = .returned (.tuple #[.int .u64 L, v]) ∧ IsTold w' E v ∧ Below wx.heap.size wx w') := fun wx fo2 fc2 uo2 tc2 wo2 wc2 mo mc h k => length_any fo2 uo2 wo2 fc2 tc2 wc2 F T W C hC hmF wx h.1 h.2 mo mc xs k.1 k.2.1 (by omega) L E hL
  have HDL : Hid (∀ wx, Below W0.heap.size W0 wx → Calls Tryd.prog 11 #[.agg #[.slice fo F.length fc, .slice uo T.length tc, .slice wo W.length wc], .slice no xs.length nc] wx (LAns wx L E)) := fun wx hwx => docLength_any fo uo wo fc tc wc F T W C hC hmF wx (HX.out wx hwx).2 no nc xs (HX.out wx hwx).1 (by omega) L E hL
  have HSX : Hid (∀ wx fo2 fc2 uo2 tc2 wo2 wc2 mo mc, (Arr wx F T W fo2 uo2 wo2 fc2 tc2 wc2 ∧ T.length ≤ tc2) → Tw wx mo mc xs → Calls Tryd.prog 13 #[.agg #[.slice fo2 F.length fc2, .slice uo2 T.length tc2, .slice wo2 W.length wc2], .slice mo xs.length mc] wx fun e w' => ∃ v, e = .returned (.tuple #[.bool bb, v]) ∧ IsTold w' E v ∧ Below wx.heap.size wx w') := fun wx fo2 fc2 uo2 tc2 wo2 wc2 mo mc h k => hs1 fo2 uo2 wo2 fc2 tc2 wc2 wx mo mc h.1 h.2 k
  have HDS : Hid (∀ wx, Below W0.heap.size W0 wx → Calls Tryd.prog 14 #[.agg #[.slice fo F.length fc, .slice uo T.length tc, .slice wo W.length wc], .slice no xs.length nc] wx (SAns wx bb E)) := fun wx hwx => hs2 fo uo wo fc tc wc wx no nc (HX.out wx hwx).2 (HX.out wx hwx).1
  have HSE : Hid (∀ wx v po pc, Below w.heap.size w wx → IsTold wx E v → HasPlaces wx (.slice po E.2.length pc) E.2 → Calls Tryd.prog 12 #[v, .agg #[.int .i64 E.1, .slice po E.2.length pc]] wx fun r w' => r = .returned (.bool true) ∧ Below wx.heap.size wx w') := fun wx v po pc hb h k => seen_told E v po pc wx h k (by unfold maxLen; omega) (HG.out wx hb)
  clear hW0 hB0 hbx hA hx hC hmF hL mF mT mW hs1 hs2 hE1 hg
  go_enter Tryd.func3, Tryd.ntmps3
  go_wp2_with fail
  rw [HW0.out]
  refine (awake9_calls W0).mono ?_
  rintro e w1 ⟨rfl, hb⟩
  have HB1 : Hid (Below W0.heap.size W0 w1) := hb
  clear hb
  obtain ⟨⟨c0, c1, c2⟩, cs, _⟩ := HK.out w1 HB1.out
  go_wp2_with fail
  refine (HFW.out w1 HB1.out).mono ?_
  rintro e w2 ⟨⟨fb, rfl⟩, hb⟩
  have HB2 : Hid (Below W0.heap.size W0 w2) := btr HB1.out hb
  have HBZ : Hid (Below w.heap.size w w2) := (HK.out w2 HB2.out).2.2
  clear hb HB1 c0 c1 c2 cs
  cases fb
  · go_wp2
    go_ret
    exact ⟨rfl, HBZ.out⟩
  · clear HBZ
    obtain ⟨⟨c0, c1, c2⟩, cs, _⟩ := HK.out w2 HB2.out
    go_wp2_with fail
    refine (HOF.out w2 HB2.out).mono ?_
    rintro e w3 ⟨fo2, fc2, uo2, tc2, wo2, wc2, rfl, hA2, hb⟩
    have H3 : Hid (Below W0.heap.size W0 w3 ∧ (Arr w3 F T W fo2 uo2 wo2 fc2 tc2 wc2 ∧ T.length ≤ tc2)) := ⟨btr HB2.out hb, hA2⟩
    clear hb hA2 c0 c1 c2 cs
    go_wp2_with fail
    refine (HTX.out w3 H3.out.1).mono ?_
    rintro e w4 ⟨mo, mc, rfl, ht, hb⟩
    have H4 : Hid (Below W0.heap.size W0 w4 ∧ (Arr w4 F T W fo2 uo2 wo2 fc2 tc2 wc2 ∧ T.length ≤ tc2) ∧ Tw w4 mo mc xs) := ⟨btr H3.out.1 hb, ⟨H3.out.2.1.keep hb, H3.out.2.2⟩, ht⟩
    clear hb ht
    go_wp2_with fail
    refine (HLX.out w4 fo2 fc2 uo2 tc2 wo2 wc2 mo mc H4.out.2.1 H4.out.2.2).mono ?_
    rintro e w5 ⟨v, rfl, hv, hb⟩
    have H5 : Hid (Below W0.heap.size W0 w5 ∧ IsTold w5 E v) := ⟨btr H4.out.1 hb, hv⟩
    clear hb hv
    obtain ⟨⟨c0, c1, c2⟩, cs, _⟩ := HK.out w5 H5.out.1
    go_wp2_with fail
    refine (HDL.out w5 H5.out.1).mono ?_
    rintro e w6 ⟨po, pc, rfl, hP, hb⟩
    have hb7 : Below w6.heap.size w6 (w6.alloc (.cells #[.int .i64 E.1, .slice po E.2.length pc] 37)) := below1 _ _
    have h6 := (btr H5.out.1 hb)
    have H7 : Hid (Below W0.heap.size W0 (w6.alloc (.cells #[.int .i64 E.1, .slice po E.2.length pc] 37)) ∧ IsTold (w6.alloc (.cells #[.int .i64 E.1, .slice po E.2.length pc] 37)) E v ∧ HasPlaces (w6.alloc (.cells #[.int .i64 E.1, .slice po E.2.length pc] 37)) (.slice po E.2.length pc) E.2 ∧ (w6.alloc (.cells #[.int .i64 E.1, .slice po E.2.length pc] 37)).heap[w6.heap.size]? = some (.cells #[.int .i64 E.1, .slice po E.2.length pc] 37) ∧ W0.heap.size ≤ w6.heap.size) := ⟨btr h6 hb7, (H5.out.2.keep (Below.keeps hb)).keep (Below.keeps hb7), hP.keep hb7, heap_new _ _, h6.size⟩
    clear hb7 h6 hb hP c0 c1 c2 cs
    go_wp2_with fail
    generalize w6.alloc (.cells #[.int .i64 E.1, .slice po E.2.length pc] 37) = W7 at *
    generalize w6.heap.size = eb at *
    refine (HSE.out W7 v po pc (HK.out W7 H7.out.1).2.2 H7.out.2.1 H7.out.2.2.1).mono ?_
    rintro e w8 ⟨rfl, hb⟩
    have H8 : Hid (Below W0.heap.size W0 w8 ∧ w8.heap[eb]? = some (.cells #[.int .i64 E.1, .slice po E.2.length pc] 37) ∧ W0.heap.size ≤ eb) := ⟨btr H7.out.1 hb, (hb.block _ (lt_of_get H7.out.2.2.2.1)).trans H7.out.2.2.2.1, H7.out.2.2.2.2⟩
    clear hb H7 H5 H4 H3
    obtain ⟨⟨c0, c1, c2⟩, cs, _⟩ := HK.out w8 H8.out.1
    go_wp2_with fail
    refine (HOF.out w8 H8.out.1).mono ?_
    rintro e w9 ⟨fo3, fc3, uo3, tc3, wo3, wc3, rfl, hA3, hb⟩
    have H9 : Hid ((Below W0.heap.size W0 w9 ∧ w9.heap[eb]? = some (.cells #[.int .i64 E.1, .slice po E.2.length pc] 37) ∧ W0.heap.size ≤ eb) ∧ (Arr w9 F T W fo3 uo3 wo3 fc3 tc3 wc3 ∧ T.length ≤ tc3)) := ⟨⟨btr H8.out.1 hb, (hb.block _ (lt_of_get H8.out.2.1)).trans H8.out.2.1, H8.out.2.2⟩, hA3⟩
    clear hb hA3 c0 c1 c2 cs
    go_wp2_with fail
    refine (HTX.out w9 H9.out.1.1).mono ?_
    rintro e w10 ⟨mo3, mc3, rfl, ht, hb⟩
    have H10 : Hid ((Below W0.heap.size W0 w10 ∧ w10.heap[eb]? = some (.cells #[.int .i64 E.1, .slice po E.2.length pc] 37) ∧ W0.heap.size ≤ eb) ∧ (Arr w10 F T W fo3 uo3 wo3 fc3 tc3 wc3 ∧ T.length ≤ tc3) ∧ Tw w10 mo3 mc3 xs) := ⟨⟨btr H9.out.1.1 hb, (hb.block _ (lt_of_get H9.out.1.2.1)).trans H9.out.1.2.1, H9.out.1.2.2⟩, ⟨H9.out.2.1.keep hb, H9.out.2.2⟩, ht⟩
    clear hb ht
    go_wp2_with fail
    refine (HSX.out w10 fo3 fc3 uo3 tc3 wo3 wc3 mo3 mc3 H10.out.2.1 H10.out.2.2).mono ?_
    rintro e w11 ⟨v2, rfl, hv, hb⟩
    have H11 : Hid ((Below W0.heap.size W0 w11 ∧ w11.heap[eb]? = some (.cells #[.int .i64 E.1, .slice po E.2.length pc] 37) ∧ W0.heap.size ≤ eb) ∧ IsTold w11 E v2) := ⟨⟨btr H10.out.1.1 hb, (hb.block _ (lt_of_get H10.out.1.2.1)).trans H10.out.1.2.1, H10.out.1.2.2⟩, hv⟩
    clear hb hv
    obtain ⟨⟨c0, c1, c2⟩, cs, _⟩ := HK.out w11 H11.out.1.1
    go_wp2_with fail
    refine (HDS.out w11 H11.out.1.1).mono ?_
    rintro e w12 ⟨po2, pc2, rfl, hP, hb⟩
    have H12 : Hid ((Below W0.heap.size W0 w12 ∧ w12.heap[eb]? = some (.cells #[.int .i64 E.1, .slice po E.2.length pc] 37) ∧ W0.heap.size ≤ eb) ∧ IsTold w12 E v2 ∧ HasPlaces w12 (.slice po2 E.2.length pc2) E.2) := ⟨⟨btr H11.out.1.1 hb, (hb.block _ (lt_of_get H11.out.1.2.1)).trans H11.out.1.2.1, H11.out.1.2.2⟩, H11.out.2.keep (Below.keeps hb), hP⟩
    clear hb hP c0 c1 c2 cs H11 H10 H9 H8
    obtain ⟨d0, d1, x0, x1⟩ := cell_two H12.out.1.2.1
    have ds := lt_of_get H12.out.1.2.1
    have H13 : Hid (Below W0.heap.size W0 (lay2 w12 eb (.int .i64 E.1) (.slice po2 E.2.length pc2)) ∧ IsTold (lay2 w12 eb (.int .i64 E.1) (.slice po2 E.2.length pc2)) E v2 ∧ HasPlaces (lay2 w12 eb (.int .i64 E.1) (.slice po2 E.2.length pc2)) (.slice po2 E.2.length pc2) E.2) := ⟨(H12.out.1.1.setCell (p := ⟨eb, 0, none⟩) H12.out.1.2.2 _).setCell (p := ⟨eb, 1, none⟩) H12.out.1.2.2 _, H12.out.2.1.keep (keeps_box H12.out.1.2.1 (by decide) (fun _ hg => lay2_far hg)), lay2_places H12.out.2.2 H12.out.1.2.1⟩
    go_wp2_with fail
    rw [show (w12.setCell ⟨eb, 0, none⟩ (.int .i64 E.1)).setCell ⟨eb, 1, none⟩ (.slice po2 E.2.length pc2) = lay2 w12 eb (.int .i64 E.1) (.slice po2 E.2.length pc2) from rfl]
    clear d0 d1 x0 x1 ds
    generalize lay2 w12 eb (.int .i64 E.1) (.slice po2 E.2.length pc2) = W13 at *
    refine (HSE.out W13 v2 po2 pc2 (HK.out W13 H13.out.1).2.2 H13.out.2.1 H13.out.2.2).mono ?_
    rintro e w14 ⟨rfl, hb⟩
    have HBY : Hid (Below w.heap.size w w14) := (HK.out w14 (btr H13.out.1 hb)).2.2
    clear hb
    go_wp2
    go_ret
    exact ⟨rfl, HBY.out⟩
/-- the law, whatever the arrays and the list. -/
theorem lengths9_calls (fo uo wo : Option Addr) (fc tc wc : Nat) (F T W : List Int) (mF : F.length * 8 ≤ 140737488351232) (mT : T.length * 8 ≤ 140737488351232) (mW : W.length * 8 ≤ 140737488351232) (w : World) (hA : Arr w F T W fo uo wo fc tc wc) (no : Option Addr) (nc : Nat) (xs : List Int) (hx : HasInts w (.slice no xs.length nc) xs) (mX : xs.length * 8 ≤ 140737488351232) (hg : HasType w) :
    Calls Tryd.prog 3 #[.agg #[.slice fo F.length fc, .slice uo T.length tc, .slice wo W.length wc], .slice no xs.length nc] w fun e w' => e = .returned (.bool true) ∧ Below w.heap.size w w' := by
  obtain ⟨C, hC⟩ := chk_total F T W
  by_cases h : 2000 < xs.length
  · exact lengths9_far fo uo wo fc tc wc F T W C hC mF w hA no nc _ mX h
  · exact lengths9_near fo uo wo fc tc wc F T W C hC mF mT mW w hA no nc xs hx (by omega) hg
end Go.Proofs.YtdfjmfgbdnpkbaaDoor
