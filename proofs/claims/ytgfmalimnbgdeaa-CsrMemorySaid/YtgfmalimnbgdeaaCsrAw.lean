/- viaductref05.Same at arrays that are one, the law's of, and awake: three arcs. -/
import Derived.Test.YtgfmalimnbgdeaaCsrFi
import Derived.Test.YtgfmalimnbgdeaaCsrBk
namespace Go.Proofs.Ytgfmalimnbgdeaa
open Go.RowKit Go.Extern

attribute [local go_sem] Oper.semAt_some

set_option maxRecDepth 100000 in
set_option maxHeartbeats 4000000 in
theorem rSame_yes (ao bo co po qo ro : Option Addr) (al ac bl bc cl cc pc qc rc : Nat) (F T V : List Int) (w : World) (ha : HasInts w (.slice ao al ac) F) (hb : HasInts w (.slice bo bl bc) T) (hc : HasInts w (.slice co cl cc) V) (hp : HasInts w (.slice po al pc) F) (hq : HasInts w (.slice qo bl qc) T) (hr : HasInts w (.slice ro cl rc) V) (hF : F.length ≤ maxLen) (hT : T.length ≤ maxLen) (hV : V.length ≤ maxLen) :
    Calls Try.prog 19 #[.agg #[.slice ao al ac, .slice bo bl bc, .slice co cl cc], .agg #[.slice po al pc, .slice qo bl qc, .slice ro cl rc]] w fun e w' => e = .returned (.bool true) ∧ Below w.heap.size w w' := by
  obtain ⟨W0, hW0⟩ : ∃ W0, (w.alloc (.cells #[.slice ao al ac, .slice bo bl bc, .slice co cl cc] 47)).alloc (.cells #[.slice po al pc, .slice qo bl qc, .slice ro cl rc] 47) = W0 := ⟨_, rfl⟩
  have HW0 : Hid ((w.alloc (.cells #[.slice ao al ac, .slice bo bl bc, .slice co cl cc] 47)).alloc (.cells #[.slice po al pc, .slice qo bl qc, .slice ro cl rc] 47) = W0) := hW0
  have hB0 : Below w.heap.size w W0 := by rw [← hW0]; exact ((Below.refl _ w).alloc (Nat.le_refl _) _).alloc (by simp) _
  have k1 : W0.heap[w.heap.size]? = some (.cells #[.slice ao al ac, .slice bo bl bc, .slice co cl cc] 47) := by rw [← hW0, Below.heap_alloc _ _ _ (by simp)]; exact heap_new _ _
  have k2 : W0.heap[w.heap.size + 1]? = some (.cells #[.slice po al pc, .slice qo bl qc, .slice ro cl rc] 47) := by
    have h := heap_new (w.alloc (.cells #[.slice ao al ac, .slice bo bl bc, .slice co cl cc] 47)) (.cells #[.slice po al pc, .slice qo bl qc, .slice ro cl rc] 47)
    rw [hW0] at h
    simpa using h
  have HK : Hid (∀ wx, Below W0.heap.size W0 wx → (wx.cell? ⟨w.heap.size, 0, none⟩ = some (.slice ao al ac) ∧ wx.cell? ⟨w.heap.size, 1, none⟩ = some (.slice bo bl bc) ∧ wx.cell? ⟨w.heap.size, 2, none⟩ = some (.slice co cl cc)) ∧ (wx.cell? ⟨w.heap.size + 1, 0, none⟩ = some (.slice po al pc) ∧ wx.cell? ⟨w.heap.size + 1, 1, none⟩ = some (.slice qo bl qc) ∧ wx.cell? ⟨w.heap.size + 1, 2, none⟩ = some (.slice ro cl rc)) ∧ w.heap.size < wx.heap.size ∧ w.heap.size + 1 < wx.heap.size ∧ Below w.heap.size w wx) := fun wx hx => by
    have g1 := (hx.block _ (lt_of_get k1)).trans k1
    have g2 := (hx.block _ (lt_of_get k2)).trans k2
    exact ⟨box3 g1, box3 g2, lt_of_get g1, lt_of_get g2, hB0.trans (hx.mono hB0.size)⟩
  have H1 : Hid (∀ wx, Below W0.heap.size W0 wx → Calls Try.prog 21 #[.slice ao al ac, .slice po al pc] wx fun e w' => e = .returned (.bool true) ∧ Below W0.heap.size W0 w') := fun wx hx => (sameInts_yes _ _ F wx (ha.keep (HK.out wx hx).2.2.2.2) (hp.keep (HK.out wx hx).2.2.2.2) hF).mono fun e w' ⟨he, hb⟩ => ⟨he, hx.trans (hb.mono hx.size)⟩
  have H2 : Hid (∀ wx, Below W0.heap.size W0 wx → Calls Try.prog 21 #[.slice bo bl bc, .slice qo bl qc] wx fun e w' => e = .returned (.bool true) ∧ Below W0.heap.size W0 w') := fun wx hx => (sameInts_yes _ _ T wx (hb.keep (HK.out wx hx).2.2.2.2) (hq.keep (HK.out wx hx).2.2.2.2) hT).mono fun e w' ⟨he, hb⟩ => ⟨he, hx.trans (hb.mono hx.size)⟩
  have H3 : Hid (∀ wx, Below W0.heap.size W0 wx → Calls Try.prog 21 #[.slice co cl cc, .slice ro cl rc] wx fun e w' => e = .returned (.bool true) ∧ Below W0.heap.size W0 w') := fun wx hx => (sameInts_yes _ _ V wx (hc.keep (HK.out wx hx).2.2.2.2) (hr.keep (HK.out wx hx).2.2.2.2) hV).mono fun e w' ⟨he, hb⟩ => ⟨he, hx.trans (hb.mono hx.size)⟩
  clear ha hb hc hp hq hr hW0 hB0 k1 k2
  have tok1 : Hid (1 = 1) := rfl
  have tok2 : Hid (2 = 2) := rfl
  go_enter Try.func19, Try.ntmps19
  go_wp2_with fail
  rw [HW0.out]
  refine (H1.out W0 (Below.refl _ _)).mono ?_
  rintro e w1 ⟨rfl, hb1⟩
  have HB1 : Hid (Below W0.heap.size W0 w1) := hb1
  obtain ⟨⟨c0, c1, c2⟩, ⟨d0, d1, d2⟩, cs, ds, _⟩ := HK.out w1 hb1
  clear hb1
  go_wp2_with (first
    | (go_at_call 21; have _t := tok1; clear tok1 _t; refine (H2.out w1 HB1.out).mono ?_; rintro e w2 ⟨rfl, hb2⟩; have HB2 : Hid (Below W0.heap.size W0 w2) := hb2; clear hb2 c0 c1 c2 d0 d1 d2 cs ds; obtain ⟨⟨c0, c1, c2⟩, ⟨d0, d1, d2⟩, cs, ds, _⟩ := HK.out w2 HB2.out)
    | (go_at_call 21; have _t := tok2; clear tok2 _t; refine (H3.out w2 HB2.out).mono ?_; rintro e w3 ⟨rfl, hb3⟩; have HB3 : Hid (Below w.heap.size w w3) := (HK.out w3 hb3).2.2.2.2; clear hb3))
  go_ret
  exact ⟨rfl, HB3.out⟩

set_option maxHeartbeats 1000000 in
theorem lawOf_calls (ao bo co : Option Addr) (al ac bl bc cl cc : Nat) (w : World) :
    Calls Try.prog 20 #[.agg #[.slice ao al ac, .slice bo bl bc, .slice co cl cc]] w fun e w' => e = .returned (.agg #[.slice ao al ac, .slice bo bl bc, .slice co cl cc]) ∧ w' = (w.alloc (.cells #[.slice ao al ac, .slice bo bl bc, .slice co cl cc] 28)).alloc (.cells #[.slice ao al ac, .slice bo bl bc, .slice co cl cc] 47) := by
  go_enter Try.func20, Try.ntmps20
  go_wp2
  refine bodyPost_ret (v := .agg #[.slice ao al ac, .slice bo bl bc, .slice co cl cc]) (by simp [results, Try.results20, go_sem]) rfl ⟨rfl, rfl⟩
end Go.Proofs.Ytgfmalimnbgdeaa
