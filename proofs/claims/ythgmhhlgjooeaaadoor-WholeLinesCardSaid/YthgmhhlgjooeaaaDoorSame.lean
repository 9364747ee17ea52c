/- fault.Same and ref01.Alike: whether two chains, two told errors are alike: the same number, the same places. -/
import Derived.Test.YthgmhhlgjooeaaaDoorEqual
import Derived.Test.YthgmhhlgjooeaaaDoorTold
import Derived.Test.YthgmhhlgjooeaaaDoorShift
namespace Go.Proofs.YthgmhhlgjooeaaaDoor.F1
open Go.RowKit Go.Extern

attribute [local go_sem] Oper.semAt_some

/-- the same number and the same places? -/
def bothB (c d : Int) (ps qs : List (Int × Int)) : Bool := c == d && sameB ps qs
theorem bothB_no {c d : Int} (h : c ≠ d) (ps qs : List (Int × Int)) : bothB c d ps qs = false := by simp [bothB, h]
theorem bothB_on (c : Int) (ps qs : List (Int × Int)) : bothB c c ps qs = sameB ps qs := by simp [bothB]
theorem bothB_refl (c : Int) (ps : List (Int × Int)) : bothB c c ps ps = true := by simp [bothB, sameB]
theorem bothB_symm (c d : Int) (ps qs : List (Int × Int)) : bothB d c qs ps = bothB c d ps qs := by
  have h1 : (d == c) = (c == d) := by rw [Bool.eq_iff_iff, beq_iff_eq, beq_iff_eq]; exact eq_comm
  have h2 : sameB qs ps = sameB ps qs := decide_eq_decide.2 eq_comm
  rw [bothB, bothB, h1, h2]

set_option maxRecDepth 100000 in
set_option maxHeartbeats 1000000 in
theorem same_calls {ta tb : Value} (hta : Tail3 ta) (htb : Tail3 tb) (ps qs : List (Int × Int)) (va vb : Value) (w : World) (ha : IsErr w ta ps va) (hb : IsErr w tb qs vb) (hg : HasType w) :
    Calls Tryd.prog 9 #[va, vb] w fun e w' => e = .returned (.bool (bothB (codeOf (cutTail (strip ta) ps 64)) (codeOf (cutTail (strip tb) qs 64)) (ps.take 64) (qs.take 64))) ∧ Below w.heap.size w w' := by
  have hpos := hg.pos
  have HCA : Hid (∀ wx, Below w.heap.size w wx → Calls Tryd.prog 13 #[va] wx fun e w' => e = .returned (.int .i64 (codeOf (cutTail (strip ta) ps 64))) ∧ Below wx.heap.size wx w') := fun wx h => code_gen ps hta va wx (ha.keep (Below.keeps h)) (hg.keep h hpos)
  have HCB : Hid (∀ wx, Below w.heap.size w wx → Calls Tryd.prog 13 #[vb] wx fun e w' => e = .returned (.int .i64 (codeOf (cutTail (strip tb) qs 64))) ∧ Below wx.heap.size wx w') := fun wx h => code_gen qs htb vb wx (hb.keep (Below.keeps h)) (hg.keep h hpos)
  have HPA : Hid (∀ wx, Below w.heap.size w wx → Calls Tryd.prog 8 #[va] wx fun e w' => ∃ pl, e = .returned pl ∧ HasPlaces w' pl (ps.take 64) ∧ Below wx.heap.size wx w') := fun wx h => (places_gen hta ps va wx (ha.keep (Below.keeps h)) (hg.keep h hpos)).mono (by rintro e w' ⟨pl, rfl, hr, hb'⟩; exact ⟨pl, rfl, places_of_row hr, hb'⟩)
  have HPB : Hid (∀ wx, Below w.heap.size w wx → Calls Tryd.prog 8 #[vb] wx fun e w' => ∃ pl, e = .returned pl ∧ HasPlaces w' pl (qs.take 64) ∧ Below wx.heap.size wx w') := fun wx h => (places_gen htb qs vb wx (hb.keep (Below.keeps h)) (hg.keep h hpos)).mono (by rintro e w' ⟨pl, rfl, hr, hb'⟩; exact ⟨pl, rfl, places_of_row hr, hb'⟩)
  have HTL : Hid ((ps.take 64).length ≤ maxLen) := by show _ ≤ _; rw [List.length_take]; unfold maxLen; omega
  clear ha hb hg
  generalize codeOf (cutTail (strip ta) ps 64) = c at *
  generalize codeOf (cutTail (strip tb) qs 64) = d at *
  generalize ps.take 64 = ps' at *
  generalize qs.take 64 = qs' at *
  by_cases hcd : c = d
  · subst hcd
    rw [bothB_on]
    go_enter Tryd.func9, Tryd.ntmps9
    go_wp2_with fail
    refine (HCA.out _ (Below.refl _ _)).mono ?_
    rintro e w1 ⟨rfl, hb1⟩
    have HB1 : Hid (Below w.heap.size w w1) := hb1
    clear hb1
    go_wp2_with fail
    refine (HCB.out _ HB1.out).mono ?_
    rintro e w2 ⟨rfl, hb2⟩
    have HB2 : Hid (Below w.heap.size w w2) := HB1.out.trans (hb2.mono HB1.out.size)
    clear hb2
    go_wp2_with fail
    refine (HPA.out _ HB2.out).mono ?_
    rintro e w3 ⟨pa, rfl, hp3, hb3⟩
    have HB3 : Hid (Below w.heap.size w w3) := HB2.out.trans (hb3.mono HB2.out.size)
    have HP3 : Hid (HasPlaces w3 pa ps') := hp3
    clear hb3 hp3
    go_wp2_with fail
    refine (HPB.out _ HB3.out).mono ?_
    rintro e w4 ⟨pb, rfl, hp4, hb4⟩
    have HB4 : Hid (Below w.heap.size w w4) := HB3.out.trans (hb4.mono HB3.out.size)
    have HP4 : Hid (HasPlaces w4 pa ps' ∧ HasPlaces w4 pb qs') := ⟨HP3.out.keep hb4, hp4⟩
    clear hb4 hp4
    go_wp2_with fail
    refine (equal_calls pa pb ps' qs' w4 HP4.out.1 HP4.out.2 HTL.out).mono ?_
    rintro e w5 ⟨rfl, hb5⟩
    have HB5 : Hid (Below w.heap.size w w5) := HB4.out.trans (hb5.mono HB4.out.size)
    clear hb5
    go_wp2
    go_ret
    exact ⟨rfl, HB5.out⟩
  · rw [bothB_no hcd]
    have hcd' : (c == d) = false := by simpa using hcd
    go_enter Tryd.func9, Tryd.ntmps9
    go_wp2_with fail
    refine (HCA.out _ (Below.refl _ _)).mono ?_
    rintro e w1 ⟨rfl, hb1⟩
    have HB1 : Hid (Below w.heap.size w w1) := hb1
    clear hb1
    go_wp2_with fail
    refine (HCB.out _ HB1.out).mono ?_
    rintro e w2 ⟨rfl, hb2⟩
    have HB2 : Hid (Below w.heap.size w w2) := HB1.out.trans (hb2.mono HB1.out.size)
    clear hb2
    go_wp2
    go_ret
    exact ⟨rfl, HB2.out⟩

end Go.Proofs.YthgmhhlgjooeaaaDoor.F1
