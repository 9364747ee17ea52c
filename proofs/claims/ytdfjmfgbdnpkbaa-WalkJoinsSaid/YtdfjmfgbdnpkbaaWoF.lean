/- the law's few; lists of its own. -/
import Derived.Test.YtdfjmfgbdnpkbaaWkU
import Derived.Test.YtdfjmfgbdnpkbaaWkV
namespace Go.Proofs.Ytdfjmfgbdnpkbaa
open Go.RowKit Go.Extern

attribute [local go_sem] Oper.semAt_some

/-- a list of its own, as it may be handed on. -/
def Tw (w : World) (mo : Option Addr) (mc : Nat) (l : List Int) : Prop := HasInts w (.slice mo l.length mc) l ∧ l.length ≤ mc ∧ (mo = none ∨ ∃ g, mo = some ⟨g, 0, none⟩)
theorem tw_of {w : World} {B mc : Nat} {mo : Option Addr} {l : List Int} (h : w.ownsRow B 3 1 (.slice mo l.length mc) l.length (iv l)) : Tw w mo mc l := by
  refine ⟨ints_of_iown h, ?_⟩
  rcases h.2 with ⟨e, h0⟩ | ⟨g, cap, cur, e, _, hh, hle, _⟩
  · injection e with e1 e2 e3
    exact ⟨by omega, Or.inl e1⟩
  · injection e with e1 e2 e3
    exact ⟨by omega, Or.inr ⟨g, e1⟩⟩
theorem Tw.keep {w w' : World} {mo : Option Addr} {mc : Nat} {l : List Int} (h : Tw w mo mc l) (hb : Below w.heap.size w w') : Tw w' mo mc l := ⟨h.1.keep hb, h.2⟩

/-- a yes or no. -/
def SomeB (e : Ending) : Prop := ∃ b, e = .returned (.bool b)

set_option maxRecDepth 100000 in
set_option maxHeartbeats 4000000 in
theorem few9_calls (fo uo wo : Option Addr) (fc tc wc : Nat) (F T W : List Int) (C : Int × List (Int × Int)) (hC : ChkIs F T W C) (hm : F.length ≤ maxLen) (w : World) (hA : Arr w F T W fo uo wo fc tc wc) (lo : Option Addr) (lc m : Nat) (hml : m ≤ maxLen) :
    Calls Try.prog 6 #[.agg #[.slice fo F.length fc, .slice uo T.length tc, .slice wo W.length wc], .slice lo m lc] w fun e w' => SomeB e ∧ Below w.heap.size w w' := by
  obtain ⟨W0, hW0⟩ : ∃ W0, w.alloc (.cells #[.slice fo F.length fc, .slice uo T.length tc, .slice wo W.length wc] 24) = W0 := ⟨_, rfl⟩
  have HW0 : Hid (w.alloc (.cells #[.slice fo F.length fc, .slice uo T.length tc, .slice wo W.length wc] 24) = W0) := hW0
  have hB0 : Below w.heap.size w W0 := by rw [← hW0]; exact (Below.refl _ w).alloc (Nat.le_refl _) _
  have hbx : W0.heap[w.heap.size]? = some (.cells #[.slice fo F.length fc, .slice uo T.length tc, .slice wo W.length wc] 24) := by rw [← hW0]; exact heap_new _ _
  have HB0 : Hid (Below w.heap.size w W0) := hB0
  have HK : Hid (∀ wx, Below W0.heap.size W0 wx → (wx.cell? ⟨w.heap.size, 0, none⟩ = some (.slice fo F.length fc) ∧ wx.cell? ⟨w.heap.size, 1, none⟩ = some (.slice uo T.length tc) ∧ wx.cell? ⟨w.heap.size, 2, none⟩ = some (.slice wo W.length wc)) ∧ w.heap.size < wx.heap.size) := fun wx hx => by
    have hg := (hx.block _ (lt_of_get hbx)).trans hbx
    exact ⟨box3 hg, lt_of_get hg⟩
  have HDC : Hid (Calls Try.prog 19 #[.agg #[.slice fo F.length fc, .slice uo T.length tc, .slice wo W.length wc]] W0 (DocAns W0 C)) := docCheck_any fo uo wo _ fc _ tc _ wc F T W C W0 (hA.f.keep hB0) (hA.t.keep hB0) (hA.w.keep hB0) hm hC
  unfold maxLen at hm hml
  clear hA hW0 hB0 hbx hC
  obtain ⟨⟨c0, c1, c2⟩, cs⟩ := HK.out W0 (Below.refl _ _)
  by_cases h1 : (m : Int) ≤ 2000
  · go_enter Try.func6, Try.ntmps6
    go_wp2_with fail
    rw [HW0.out]
    refine HDC.out.mono ?_
    rintro e w1 ⟨mo, mc, rfl, _, hb⟩
    have HB1 : Hid (Below W0.heap.size W0 w1) := hb
    clear hb c0 c1 c2 cs
    go_wp2_with fail
    have hb2 : Below w1.heap.size w1 (w1.alloc (.cells #[.int .i64 C.1, .slice mo C.2.length mc] 50)) := (Below.refl _ _).alloc (Nat.le_refl _) _
    generalize w1.alloc (.cells #[.int .i64 C.1, .slice mo C.2.length mc] 50) = w2 at *
    have HB2 : Hid (Below W0.heap.size W0 w2) := btr HB1.out hb2
    clear hb2
    refine (bad_calls _ _ _ _ _).mono ?_
    generalize (C.1 != 0 || decide (0 < C.2.length)) = bb
    rintro e w3 ⟨rfl, hb⟩
    have HB3 : Hid (Below W0.heap.size W0 w3) := btr HB2.out hb
    clear hb HB2
    obtain ⟨⟨c0, c1, c2⟩, cs⟩ := HK.out w3 HB3.out
    have HBZ : Hid (Below w.heap.size w w3) := btr HB0.out HB3.out
    cases bb
    · by_cases h2 : (F.length : Int) ≤ 30
      · go_wp2
        go_ret
        exact ⟨⟨_, rfl⟩, HBZ.out⟩
      · go_wp2
        go_ret
        exact ⟨⟨_, rfl⟩, HBZ.out⟩
    · go_wp2
      go_ret
      exact ⟨⟨_, rfl⟩, HBZ.out⟩
  · go_enter Try.func6, Try.ntmps6
    go_wp2_with fail
    rw [HW0.out]
    refine HDC.out.mono ?_
    rintro e w1 ⟨mo, mc, rfl, _, hb⟩
    have HB1 : Hid (Below W0.heap.size W0 w1) := hb
    have HBZ : Hid (Below w.heap.size w w1) := btr HB0.out hb
    clear hb c0 c1 c2 cs
    go_wp2
    go_ret
    exact ⟨⟨_, rfl⟩, HBZ.out.alloc HBZ.out.size _⟩
end Go.Proofs.Ytdfjmfgbdnpkbaa
