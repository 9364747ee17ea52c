/- a row's lose. -/
import Derived.Test.YtnclegldhafaeaaGreatDoorOvN
namespace Go.Proofs.YtnclegldhafaeaaGreatDoor
open Go.RowKit Go.Extern Go.Sort

attribute [local go_sem] Oper.semAt_some

theorem rowH_base {w : World} {B B' n : Nat} {v : Value} {xs : List Value} (h : w.ownsRow B' 71 3 v n xs) (hb : B ≤ B') : w.ownsRow B 71 3 v n xs := by
  obtain ⟨h1, h2⟩ := h
  refine ⟨h1, ?_⟩
  rcases h2 with h2 | ⟨g, cap, cur, e, hb', r⟩
  · exact Or.inl h2
  · exact Or.inr ⟨g, cap, cur, e, Nat.le_trans hb hb', r⟩
theorem set_thrice (c : Array Value) (o : Nat) (x y z : Value) : ((c.setIfInBounds (o + 1) x).setIfInBounds o y).setIfInBounds (o + 1) z = (c.setIfInBounds o y).setIfInBounds (o + 1) z := by
  apply Array.ext_getElem?
  intro i
  simp only [Array.getElem?_setIfInBounds, Array.size_setIfInBounds]
  split
  · rfl
  · rename_i h
    split
    · rfl
    · rfl
/-- what lose makes of a row. -/
def loseH (bs : List Bool) (l : List H3) (gn : Nat) : List H3 × Nat := if l.length < 2 * (gn + 1) then (livH bs l, 0) else (l, gn + 1)

set_option maxRecDepth 100000 in
set_option maxHeartbeats 2000000 in
theorem lose_calls (B rb ro ab : Nat) (cur : Array Value) (T TB : TypeId) (v : Value) (gn : Nat) (l : List H3) (bs : List Bool) (w : World) (hrow : w.heap[rb]? = some (.cells cur T (0, 0))) (hv : cur[ro]? = some v) (hgn : cur[ro + 1]? = some (.int .i64 gn)) (ho : w.ownsRow B 71 3 v l.length (flatH l)) (hne : v.ownBlock ≠ some rb) (hB : B ≤ w.heap.size) (hab : w.heap[ab]? = some (.cells (bC bs) TB (0, 0))) (hne2 : ab ≠ rb) (hg : gn + 1 ≤ l.length) (hl : l.length ≤ 262144) (hn : ∀ a ∈ l, 0 ≤ a.1 ∧ a.1 < (bs.length : Int)) :
    Calls Tryz.prog 59 #[.pointer (some ⟨rb, ro, none⟩), .slice (some ⟨ab, 0, none⟩) bs.length bs.length] w fun e w' => e = .returned (.tuple #[]) ∧ ∃ v', w'.ownsRow B 71 3 v' (loseH bs l gn).1.length (flatH (loseH bs l gn).1) ∧ Moved w w' rb ro cur T v v' (loseH bs l gn).2 := by
  have hlt := lt_of_get hrow
  obtain ⟨ao, c, rfl⟩ := rowH_slice ho
  obtain ⟨W1, hW1⟩ : ∃ W1, w.setCell ⟨rb, ro + 1, none⟩ (.int .i64 ((gn : Int) + 1)) = W1 := ⟨_, rfl⟩
  have hr1 : W1.heap[rb]? = some (.cells (cur.setIfInBounds (ro + 1) (.int .i64 ((gn : Int) + 1))) T (0, 0)) := by rw [← hW1]; exact hsc_same _ hrow
  have hsz1 : W1.heap.size = w.heap.size := by rw [← hW1]; simp
  have hot : ∀ j, j ≠ rb → W1.heap[j]? = w.heap[j]? := fun j hj => by rw [← hW1]; exact heap_setCell_other _ _ _ _ hj
  have hw1 : W1.os = w.os ∧ W1.tape = w.tape ∧ W1.output = w.output := by rw [← hW1]; exact ⟨rfl, rfl, rfl⟩
  have hros : ro + 1 < cur.size := (Array.getElem?_eq_some_iff.1 hgn).1
  have hv1 : (cur.setIfInBounds (ro + 1) (.int .i64 ((gn : Int) + 1)))[ro]? = some (.slice ao l.length c) := by rw [Array.getElem?_setIfInBounds, if_neg (by omega)]; exact hv
  have hg1 : (cur.setIfInBounds (ro + 1) (.int .i64 ((gn : Int) + 1)))[ro + 1]? = some (.int .i64 ((gn + 1 : Nat) : Int)) := by rw [Array.getElem?_setIfInBounds, if_pos rfl, if_pos hros]; rfl
  have ho1 : W1.ownsRow B 71 3 (.slice ao l.length c) l.length (flatH l) := by rw [← hW1]; exact own_set ho hne _
  have hab1 : W1.heap[ab]? = some (.cells (bC bs) TB (0, 0)) := (hot ab hne2).trans hab
  have HLI : Hid (type_of% (living_calls rb ro ab _ T TB _ (gn + 1) l bs W1.drew hr1 hv1 hg1 ((hs_of_rowH ho1).keep (Below.refl _ W1).drew) hab1 hg hl hn)) := living_calls rb ro ab _ T TB _ (gn + 1) l bs W1.drew hr1 hv1 hg1 ((hs_of_rowH ho1).keep (Below.refl _ W1).drew) hab1 hg hl hn
  have c0 : w.cell? ⟨rb, ro + 1, none⟩ = some (.int .i64 gn) := by simpa [World.cell?, hrow] using hgn
  have f0 : w.frozen? ⟨rb, ro + 1, none⟩ = false := by simp [World.frozen?, hrow]
  have d0 : W1.cell? ⟨rb, ro, none⟩ = some (.slice ao l.length c) := by simpa [World.cell?, hr1] using hv1
  have d1 : W1.cell? ⟨rb, ro + 1, none⟩ = some (.int .i64 ((gn : Int) + 1)) := by simpa [World.cell?, hr1] using hg1
  have HW : Hid (w.setCell ⟨rb, ro + 1, none⟩ (.int .i64 ((gn : Int) + 1)) = W1) := hW1
  have HB : Hid (∀ j, j ≠ rb → W1.heap[j]? = w.heap[j]?) := hot
  have HN : Hid (type_of% (And.intro hr1 (And.intro hsz1 (And.intro hw1 (And.intro hne (And.intro hB ho1)))))) := ⟨hr1, hsz1, hw1, hne, hB, ho1⟩
  have i0 : IntKind.i64.wrap ((gn : Int) + 1) = (gn : Int) + 1 := by rw [IntKind.wrap_i64] <;> omega
  have i1 : IntKind.i64.wrap (2 * ((gn : Int) + 1)) = 2 * ((gn : Int) + 1) := by rw [IntKind.wrap_i64] <;> omega
  have l0 : rb < W1.heap.size := by omega
  have HV : Hid (cur[ro]? = some (.slice ao l.length c)) := hv
  clear hW1 hr1 hot hw1 hros hv1 hg1 ho1 hab1 hrow hv hgn ho hne hB hab hne2 hn hsz1
  by_cases hbig : l.length < 2 * (gn + 1)
  · have j0 : 2 * ((gn : Int) + 1) > (l.length : Int) := by omega
    have j1 : (l.length : Int) < 2 * ((gn : Int) + 1) := by omega
    have HE : Hid (loseH bs l gn = (livH bs l, 0)) := by show _ = _; simp [loseH, hbig]
    go_enter Tryz.func59, Tryz.ntmps59
    go_wp2_with fail
    rw [HW.out]
    go_region_held3 (fun w' => w'.cell? ⟨rb, ro, none⟩ = some (.slice ao l.length c) ∧ w'.cell? ⟨rb, ro + 1, none⟩ = some (.int .i64 ((gn : Int) + 1))) (go_keep) (first | fail)
    go_wp2_with fail
    refine HLI.out.mono ?_
    rintro e w2 ⟨v', rfl, o2, b2⟩
    obtain ⟨qo, qc, hv3⟩ := rowH_slice o2
    subst hv3
    have hb2 : Below W1.heap.size W1 w2 := (Below.refl _ W1).drew.trans b2
    obtain ⟨n1, n2, ⟨n3, n4, n5⟩, n6, n7, n8⟩ := HN.out
    have hr2 : w2.heap[rb]? = some (.cells (cur.setIfInBounds (ro + 1) (.int .i64 ((gn : Int) + 1))) T (0, 0)) := (hb2.block rb l0).trans n1
    have hne' : (Value.slice qo (livH bs l).length qc).ownBlock ≠ some rb := fun e => by
      have h := (o2.lt rb e).1
      have h' : W1.heap.size ≤ rb := h
      omega
    have HF : Hid (∀ W, W = (w2.setCell ⟨rb, ro, none⟩ (.slice qo (livH bs l).length qc)).setCell ⟨rb, ro + 1, none⟩ (.int .i64 0) → W.ownsRow B 71 3 (.slice qo (livH bs l).length qc) (livH bs l).length (flatH (livH bs l)) ∧ Moved w W rb ro cur T (.slice ao l.length c) (.slice qo (livH bs l).length qc) 0) := fun W hW => by
      subst hW
      refine ⟨own_set (own_set (rowH_base o2 (by show B ≤ W1.heap.size; omega)) hne' _) hne' _, ⟨hb2.os.trans n3, hb2.tape.trans n4, hb2.output.trans n5, by have := hb2.size; simp; omega, fun k hk h1 h2 => ?_, ?_, fun k hk => Or.inr ?_⟩⟩
      · rw [heap_setCell_other _ _ _ _ h1, heap_setCell_other _ _ _ _ h1, hb2.block k (by omega), HB.out k h1]
      · rw [hsc_same _ (hsc_same _ hr2), set_thrice]
        rfl
      · have h := (o2.lt k hk).1
        have h' : W1.heap.size ≤ k := h
        omega
    have e0 : w2.cell? ⟨rb, ro, none⟩ = some (.slice ao l.length c) := (hb2.cell (p := ⟨rb, ro, none⟩) l0).trans d0
    have e1 : w2.cell? ⟨rb, ro + 1, none⟩ = some (.int .i64 ((gn : Int) + 1)) := (hb2.cell (p := ⟨rb, ro + 1, none⟩) l0).trans d1
    have e2 : w2.frozen? ⟨rb, ro, none⟩ = false := by simp [World.frozen?, hr2]
    have e3 : w2.frozen? ⟨rb, ro + 1, none⟩ = false := by simp [World.frozen?, hr2]
    have e4 : rb < w2.heap.size := lt_of_get hr2
    clear n1 n2 n3 n4 n5 n6 n7 n8 hr2 hne' hb2 b2 o2
    go_wp2
    obtain ⟨f1, f2⟩ := HF.out _ rfl
    exact bodyPost_end (v := .tuple #[]) (by simp [results, Tryz.results59]) rfl ⟨rfl, _, by rw [HE.out]; exact f1, by rw [HE.out]; exact f2⟩
  · have j0 : ¬ 2 * ((gn : Int) + 1) > (l.length : Int) := by omega
    have j1 : ¬ (l.length : Int) < 2 * ((gn : Int) + 1) := by omega
    have HE : Hid (loseH bs l gn = (l, gn + 1)) := by show _ = _; simp [loseH, hbig]
    have HF : Hid (∀ W, W = W1.drew → W.ownsRow B 71 3 (.slice ao l.length c) l.length (flatH l) ∧ Moved w W rb ro cur T (.slice ao l.length c) (.slice ao l.length c) (gn + 1)) := fun W hW => by
      subst hW
      obtain ⟨n1, n2, ⟨n3, n4, n5⟩, n6, n7, n8⟩ := HN.out
      refine ⟨n8, ⟨n3, n4, n5, by show w.heap.size ≤ W1.heap.size; omega, fun k hk h1 h2 => HB.out k h1, ?_, fun k hk => Or.inl hk⟩⟩
      rw [set_self (c := cur) HV.out]
      exact n1
    go_enter Tryz.func59, Tryz.ntmps59
    go_wp2_with fail
    rw [HW.out]
    go_region_held3 (fun w' => w'.cell? ⟨rb, ro, none⟩ = some (.slice ao l.length c) ∧ w'.cell? ⟨rb, ro + 1, none⟩ = some (.int .i64 ((gn : Int) + 1))) (go_keep) (first | fail)
    go_wp2
    obtain ⟨f1, f2⟩ := HF.out _ rfl
    exact bodyPost_end (v := .tuple #[]) (by simp [results, Tryz.results59]) rfl ⟨rfl, _, by rw [HE.out]; exact f1, by rw [HE.out]; exact f2⟩
end Go.Proofs.YtnclegldhafaeaaGreatDoor
