/- check and Find, walked: what a witness search answers. -/
import Derived.Test.YtcfpkbmeblfhoaaWtO
import Derived.Test.YtcfpkbmeblfhoaaWtZ
namespace Go.Proofs.Ytcfpkbmeblfhoaa.Wt
open Go Go.RowKit Go.Extern

attribute [local go_sem] Oper.semAt_some

/-- the first goal that isn't alive. -/
def goalsErr (al : Int → Bool) : List Int → Nat → Int × List (Int × Int)
  | [], _ => (0, [])
  | g :: r, i => if al g then goalsErr al r (i + 1) else (7, [(3, (i : Int))])
def findErr (al : Int → Bool) (u : Int) (gs : List Int) : Int × List (Int × Int) := if al u then goalsErr al gs 0 else (7, [])
theorem goalsErr_step {al : Int → Bool} {gs : List Int} {i : Nat} {g : Int} (h : gs[i]? = some g) (ha : al g = true) : goalsErr al (gs.drop i) i = goalsErr al (gs.drop (i + 1)) (i + 1) := by
  obtain ⟨hl, hx⟩ := List.getElem?_eq_some_iff.1 h
  rw [List.drop_eq_getElem_cons hl, hx]
  show (if al g = true then goalsErr al (gs.drop (i + 1)) (i + 1) else (7, [(3, (i : Int))])) = _
  rw [if_pos ha]
theorem goalsErr_bad {al : Int → Bool} {gs : List Int} {i : Nat} {g : Int} (h : gs[i]? = some g) (ha : al g = false) : goalsErr al (gs.drop i) i = (7, [(3, (i : Int))]) := by
  obtain ⟨hl, hx⟩ := List.getElem?_eq_some_iff.1 h
  rw [List.drop_eq_getElem_cons hl, hx]
  show (if al g = true then goalsErr al (gs.drop (i + 1)) (i + 1) else (7, [(3, (i : Int))])) = _
  rw [if_neg (by rw [ha]; simp)]
theorem goalsErr_ok {al : Int → Bool} : ∀ {gs : List Int} {i : Nat}, goalsErr al gs i = (0, []) → ∀ g ∈ gs, al g = true
  | [], _, _, g, hg => by cases hg
  | a :: r, i, h, g, hg => by
    unfold goalsErr at h
    split at h
    · rename_i ha
      rcases List.mem_cons.1 hg with rfl | hg
      · exact ha
      · exact goalsErr_ok h g hg
    · have := congrArg Prod.fst h
      simp at this
set_option maxRecDepth 100000 in
set_option maxHeartbeats 4000000 in
theorem wcheck_calls (oa : Addr) (u : Int) (go : Option Addr) (gc : Nat) (gs : List Int) (al : Int → Bool) (w : World) (hg : HasInts w (.slice go gs.length gc) gs) (hl : gs.length ≤ 1000000) (hal : ∀ wx, Below w.heap.size w wx → ∀ x : Int, Calls Try.prog 28 #[.pointer (some oa), .int .i64 x] wx fun e w' => e = .returned (.bool (al x)) ∧ w' = wx) :
    Calls Try.prog 15 #[.pointer (some oa), .int .i64 u, .slice go gs.length gc] w fun e w' => ∃ v, e = .returned v ∧ IsTold w' (findErr al u gs) v ∧ Below w.heap.size w w' := by
  have HA : Hid (type_of% hal) := hal
  have HG : Hid (HasInts w (.slice go gs.length gc) gs ∧ gs.length ≤ 1000000) := ⟨hg, hl⟩
  have HA0 : Hid (type_of% (hal w (Below.refl _ _) u)) := hal w (Below.refl _ _) u
  obtain ⟨r, hr⟩ : ∃ r, findErr al u gs = r := ⟨_, rfl⟩
  rw [hr]
  have HR : Hid (findErr al u gs = r) := hr
  clear hal hg hl hr
  go_enter Try.func15, Try.ntmps15
  go_wp2_with fail
  refine HA0.out.mono ?_
  rintro e y1 ⟨rfl, rfl⟩
  cases hu : al u with
  | false =>
    have HF : Hid (IsTold y1 r (.iface 72 (.int .i64 7))) := by
      rw [← HR.out]
      unfold findErr
      rw [if_neg (by rw [hu]; simp)]
      exact Or.inr ⟨by simp, rfl⟩
    clear hu HA0
    go_wp2
    go_ret
    exact ⟨_, rfl, HF.out, Below.refl _ _⟩
  | true =>
    have HR2 : Hid (goalsErr al gs 0 = r) := by
      rw [← HR.out]
      show _ = _
      unfold findErr
      rw [if_pos hu]
    clear hu HA0
    go_wp2_with fail
    go_loopw [19] (fun iv wr => ∃ i : Nat, iv = .int .i64 i ∧ i ≤ gs.length ∧ goalsErr al (gs.drop i) i = r ∧ Below y1.heap.size y1 wr) (fun iv _ => gs.length - (intOf iv).toNat)
    case atStart => exact ⟨0, rfl, Nat.zero_le _, HR2.out, Below.refl _ _⟩
    case round =>
      obtain ⟨i, rfl, hi, he, hb⟩ := hrel
      have HE : Hid (goalsErr al (gs.drop i) i = r ∧ Below y1.heap.size y1 wr) := ⟨he, hb⟩
      clear he
      by_cases hlt : i < gs.length
      · obtain ⟨g, hgi⟩ : ∃ g, gs[i]? = some g := ⟨gs[i], List.getElem?_eq_getElem hlt⟩
        obtain ⟨b, off, hgo, bl, p0⟩ := (HG.out.1.keep hb).at hgi
        subst hgo
        have HGI : Hid (gs[i]? = some g) := hgi
        have i1 : (i : Int) < (gs.length : Int) := by omega
        have i2 : (0 : Int) ≤ (i : Int) := by omega
        have ib : i < 1000000 := by have := HG.out.2; omega
        have HAL : Hid (type_of% (HA.out wr hb g)) := HA.out wr hb g
        clear hgi hb
        go_wp2_with fail
        refine HAL.out.mono ?_
        rintro e y2 ⟨rfl, rfl⟩
        cases hag : al g with
        | true =>
          have HN : Hid (goalsErr al (gs.drop (i + 1)) (i + 1) = r) := by rw [← HE.out.1]; exact (goalsErr_step HGI.out hag).symm
          clear hag HAL
          go_wp2
          go_roundw
          case rel => exact ⟨i + 1, by go_num, by omega, HN.out, HE.out.2⟩
          case measure => simp [intOf]; omega
        | false =>
          have HN : Hid (r = (7, [(3, (i : Int))])) := HE.out.1.symm.trans (goalsErr_bad HGI.out hag)
          clear hag HAL
          go_wp2_with (go_at_call 29; refine (at_some 3 (i : Int) 72 (.int .i64 7) _).mono ?_; rintro e w' ⟨rfl, rfl⟩)
          go_ret
          refine ⟨_, rfl, ?_, HE.out.2.alloc HE.out.2.size _⟩
          rw [HN.out]
          exact Or.inr ⟨by simp, ⟨_, _, rfl, heap_new _ _, rfl⟩⟩
      · obtain rfl : i = gs.length := by omega
        have HN : Hid (r = (0, [])) := by
          have := HE.out.1
          rw [List.drop_length] at this
          exact this.symm
        clear hb
        go_wp2
        go_ret
        refine ⟨_, rfl, ?_, HE.out.2⟩
        rw [HN.out]
        exact Or.inl ⟨rfl, rfl⟩
end Go.Proofs.Ytcfpkbmeblfhoaa.Wt
